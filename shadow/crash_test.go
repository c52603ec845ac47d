package shadow

import (
	"bytes"
	"fmt"
	"math"
	"slices"
	"testing"

	"tallyman/api"
	"tallyman/sector"
)

// An I/O error breaks the store.

// busy is a store all of whose frames are dirty, so that each page that comes is in the way of another one.
func busy(t testing.TB) *both {
	t.Helper()
	x := formatted(t, 40, 8)
	for i := range 12 {
		x.create(kinds()[i%4], plain(uint64(i), 50*i))
	}
	x.commit([4]uint64{1, 2})
	for n := range 10 {
		x.write(n, api.PageSlots, plain(100+uint64(n), 60))
	}
	return x
}

func TestFaultsOfCalls(t *testing.T) {
	for what, x := range map[string]struct {
		count int
		call  func(s *Store) api.Errno
	}{
		"Read of one that is committed": {16, func(s *Store) api.Errno {
			p, err := s.Read(11)
			if err != api.OK {
				wantNoPage(t, "Read", p)
			}
			return err
		}},
		"Read of one that is new":         {16, func(s *Store) api.Errno { _, err := s.Read(0); return err }},
		"Pin":                             {16, func(s *Store) api.Errno { return s.Pin(10) }},
		"Write of one that is committed":  {8, func(s *Store) api.Errno { return s.Write(11, api.PageDir, []byte{1}) }},
		"Write of one that is new":        {8, func(s *Store) api.Errno { return s.Write(1, api.PageDir, []byte{1}) }},
		"Write of one that is in a frame": {0, func(s *Store) api.Errno { return s.Write(9, api.PageDir, []byte{1}) }},
		"New": {8, func(s *Store) api.Errno {
			n, err := s.New(api.PageBucket, nil)
			if err != api.OK {
				wantCount(t, "New", n, 0)
			}
			return err
		}},
		"Free":  {0, func(s *Store) api.Errno { return s.Free(11) }},
		"Unpin": {0, func(s *Store) api.Errno { s.Pin(9); return s.Unpin(9) }},
		"Evict": {8, func(s *Store) api.Errno { return s.Evict(3) }},
	} {
		var now *both
		count := each(t, what, func(fault int) api.Errno {
			now = busy(t)
			fail(t, now.d, fault)
			return x.call(now.s)
		}, func(what string) {
			// All else is as it was ahead of the call.
			wantBroken(t, what, now.s)
			wantTold(t, what, now.s, now.b)
			wantUntouched(t, what, now.d, now.b)
			now.rollback()
			now.want(what + ", rolled back")
			now.create(api.PageSlots, nil)
			now.commit([4]uint64{3})
			now.want(what + ", rolled back, committed")
		})
		wantCount(t, what+": operations", count, x.count)
	}
}

func TestOtherErrorsBreakNothing(t *testing.T) {
	x := formatted(t, 8, 8)
	for range 4 {
		x.create(api.PageSlots, nil)
	}
	x.s.Read(9)
	x.s.Write(0, 0, nil)
	x.s.Write(9, api.PageSlots, nil)
	x.s.New(0, nil)
	x.s.New(api.PageSlots, nil)
	x.s.Free(9)
	x.s.Commit([4]uint64{})
	x.s.Pin(9)
	x.s.Unpin(9)
	x.s.Unpin(0)
	x.s.Evict(-1)
	x.want("behind all other errors")
}

func TestBroken(t *testing.T) {
	x := some(t, 24, 8)
	fail(t, x.d, 0)
	wantErr(t, "Commit", x.s.Commit([4]uint64{}), api.ErrIO)
	// It stays broken, however often it is asked, and tells what it told.
	for range 3 {
		wantBroken(t, "broken", x.s)
		wantTold(t, "broken", x.s, x.b)
	}
	// No call of a broken store does an operation: the fault stays.
	fail(t, x.d, 0)
	wantBroken(t, "broken", x.s)
	_, err := x.d.Read(0)
	wantErr(t, "the first operation", err, api.ErrIO)
	x.rollback()
	x.want("Rollback")
}

// doubtful is a fault's commit: what was there ahead of it, and what is if its root counts.
type doubtful struct {
	*both
	next  *book
	doubt bool // its root was begun to be written
}

const metaOfNext = math.MaxUint64

// commits hands on a commit that is broken by a fault at each of its operations, and answers how many they are.
func commits(t testing.TB, frames int, look func(what string, x doubtful)) int {
	t.Helper()
	total := -1
	run := func(fault int) (doubtful, api.Errno) {
		x := doubtful{both: some(t, 20, frames)}
		x.next = x.b.copy()
		wantErr(t, "the model's commit", x.next.commit([4]uint64{metaOfNext}), api.OK)
		x.doubt = fault >= total-9
		fail(t, x.d, fault)
		return x, x.s.Commit([4]uint64{metaOfNext})
	}
	nothing := func(string) {}
	total = each(t, "Commit", func(fault int) api.Errno { _, err := run(fault); return err }, nothing)
	var x doubtful
	return each(t, "Commit", func(fault int) (err api.Errno) {
		x, err = run(fault)
		return err
	}, func(what string) { look(what, x) })
}

func TestCommitFaults(t *testing.T) {
	for _, frames := range []int{8, 20} {
		commits(t, frames, func(what string, x doubtful) {
			wantBroken(t, what, x.s)
			wantTold(t, what, x.s, x.b)
			wantUntouched(t, what, x.d, x.b)
			slot := 1 - int(x.b.root.Epoch%2)
			before := pageOf(x.d.Image(), slot)
			x.rollback()
			// The slot of a root in doubt has noughts; else it is as it was.
			if x.doubt {
				before = make([]byte, size)
			}
			if !bytes.Equal(pageOf(x.d.Image(), slot), before) {
				t.Fatalf("%s: the slot of the next root, in doubt: %v, has other bytes", what, x.doubt)
			}
			x.want(what + ", rolled back")
			wantKept(t, what+", rolled back", x.d, x.b)
			// Whatever a crash keeps then, the last commit counts.
			wantErr(t, "a crash", x.d.Crash(api.Crash{Torn: -1, Keep: slices.Repeat([]bool{true}, 1000)}), api.OK)
			x.s = open(t, what+", rolled back, crashed", x.d, 8)
			x.want(what + ", rolled back, crashed")
			x.write(2, api.PageDir, []byte{1})
			x.commit([4]uint64{metaOfNext})
			x.want(what + ", rolled back, crashed, committed")
		})
	}
}

func TestRollbackFaults(t *testing.T) {
	commits(t, 8, func(what string, x doubtful) {
		before := len(x.d.Cached())
		count := each(t, what+", Rollback", func(fault int) api.Errno {
			fail(t, x.d, fault)
			return x.s.Rollback()
		}, func(what string) {
			wantBroken(t, what, x.s)
			if !x.doubt && len(x.d.Cached()) != before {
				t.Fatalf("%s: Rollback writes", what)
			}
		})
		// The slot is written once only: a fault behind its flush finds none in doubt.
		wantCount(t, what+": operations of Rollback", count, 16+16)
		fail(t, x.d, -1)
		x.b.rollback()
		x.want(what + ", rolled back")
		wantErr(t, "a crash", x.d.Crash(api.Crash{Torn: -1, Keep: slices.Repeat([]bool{true}, 1000)}), api.OK)
		x.s = open(t, what+", rolled back, crashed", x.d, 8)
		x.want(what + ", rolled back, crashed")
	})
}

func TestRollbackOfDoubtOperations(t *testing.T) {
	commits(t, 8, func(what string, x doubtful) {
		// A fault behind so many operations of one roll back, that is not begun anew.
		want := 16 + 16
		if x.doubt {
			want += 9
		}
		fail(t, x.d, want)
		x.rollback()
		_, err := x.d.Read(0)
		wantErr(t, what+": the operation behind Rollback", err, api.ErrIO)
		x.want(what + ", rolled back")
	})
}

func TestDoubtOverSlots(t *testing.T) {
	// Roll backs and commits by turns, each commit broken at its last flush: its root is in the cache, whole.
	x := formatted(t, 24, 8)
	x.create(api.PageSlots, plain(1, 9))
	x.commit([4]uint64{})
	for i := range 6 {
		x.write(0, api.PageSlots, plain(uint64(i), 10))
		next := x.b.copy()
		wantErr(t, "the model's commit", next.commit([4]uint64{7}), api.OK)
		fail(t, x.d, 8*3+1+8)
		wantErr(t, "Commit", x.s.Commit([4]uint64{7}), api.ErrIO)
		// Another one who opens the disk now finds the new root: it is in doubt indeed.
		wantBook(t, "the root in doubt", open(t, "the root in doubt", x.d, 8), next)
		fail(t, x.d, i)
		wantErr(t, "Rollback", x.s.Rollback(), api.ErrIO)
		wantBroken(t, "Rollback", x.s)
		x.rollback()
		x.want("Rollback of a root in doubt")
		wantBook(t, "Rollback of a root in doubt", open(t, "Rollback", x.d, 8), x.b)
		if i%2 == 0 {
			x.write(0, api.PageOver, plain(uint64(i), 11))
			x.commit([4]uint64{uint64(i)})
			x.want("Commit behind it")
		}
	}
}

// P11.4: crashes.

// crashes are what may be kept of so many cached sectors.
func crashes(cached int) []api.Crash {
	all := slices.Repeat([]bool{true}, cached)
	l := []api.Crash{{Torn: -1}, {Torn: -1, Keep: all}, {Torn: cached, Keep: all, Bytes: 9}}
	for i := range cached {
		only, but := make([]bool, cached), slices.Clone(all)
		only[i], but[i] = true, false
		l = append(l, api.Crash{Torn: -1, Keep: all[:i]}, api.Crash{Torn: -1, Keep: only}, api.Crash{Torn: -1, Keep: but})
		behind := slices.Clone(all)
		clear(behind[:i])
		l = append(l, api.Crash{Torn: -1, Keep: behind}, api.Crash{Torn: i, Keep: all, Bytes: 30}, api.Crash{Torn: i, Bytes: 88})
		l = append(l, api.Crash{Torn: i, Keep: behind, Bytes: 60}, api.Crash{Torn: i, Keep: all[:i], Bytes: 300}, api.Crash{Torn: i, Keep: all, Bytes: 0})
	}
	for seed := range 8 {
		some := plain(uint64(seed), cached+2)
		keep := make([]bool, cached)
		for i := range keep {
			keep[i] = some[i] < 128
		}
		l = append(l, api.Crash{Torn: int(some[cached]) % (cached + 1), Keep: keep, Bytes: 2 * int(some[cached+1])})
	}
	return l
}

// still is a disk at one time, of which each crash has a copy.
type still struct {
	image  []byte
	order  []int
	cached [][]byte
}

func stillOf(t testing.TB, d *sector.Disk) still {
	t.Helper()
	s := still{image: d.Image(), order: d.Cached()}
	for _, n := range s.order {
		b, err := d.Read(n)
		wantErr(t, "Read of a sector", err, api.OK)
		s.cached = append(s.cached, b)
	}
	return s
}

func (s still) disk(t testing.TB) *sector.Disk {
	t.Helper()
	d := diskOf(t, s.image)
	for i, n := range s.order {
		wantErr(t, "Write of a sector", d.Write(n, s.cached[i]), api.OK)
	}
	return d
}

// eachCrash opens a disk behind each crash, and looks at which of the books it has, all of it: it is the one that the image leads to.
func eachCrash(t *testing.T, what string, s still, elder, newer *book) (elders, newers int) {
	t.Helper()
	for i, c := range crashes(len(s.order)) {
		d := s.disk(t)
		wantErr(t, "Crash", d.Crash(c), api.OK)
		what := fmt.Sprint(what, ", crash ", i)
		told := toldOf(t, d.Image())
		if told == nil {
			t.Fatalf("%s: the disk has no store", what)
		}
		x := &both{t, d, open(t, what, d, 8), told}
		wantTold(t, what, x.s, told)
		if told.root == elder.root {
			elders++
			wantSame(t, what, told, elder)
		} else {
			newers++
			wantSame(t, what, told, newer)
		}
		if i%16 != 0 {
			continue
		}
		// It goes on from there: it is read, changed, committed, and opened again.
		wantPages(t, what, x.s, told)
		x.write(2, api.PageDir, []byte{8})
		x.commit([4]uint64{5})
		wantBook(t, what+", committed", open(t, what, d, 9), x.b)
	}
	return elders, newers
}

func TestCrashes(t *testing.T) {
	both := 0
	commits(t, 8, func(what string, x doubtful) {
		elders, newers := eachCrash(t, what, stillOf(t, x.d), x.b, x.next)
		if !x.doubt && newers > 0 {
			t.Fatalf("%s: %d crashes keep a root that was not begun", what, newers)
		}
		if elders == 0 {
			t.Fatalf("%s: no crash loses the root", what)
		}
		if newers > 0 {
			both++
		}
	})
	if both == 0 {
		t.Fatal("no crash keeps a root in doubt")
	}
}

func TestCrashesBehindRollback(t *testing.T) {
	// While a roll back of a root in doubt is cut, too, it is the one or the other; behind it, it is the last commit alone.
	commits(t, 8, func(what string, x doubtful) {
		if !x.doubt {
			return
		}
		for fault := range 10 {
			fail(t, x.d, fault)
			wantErr(t, what+", Rollback", x.s.Rollback(), api.ErrIO)
			_, newers := eachCrash(t, fmt.Sprint(what, ", Rollback with a fault behind ", fault), stillOf(t, x.d), x.b, x.next)
			if fault > 0 && newers > 0 {
				t.Fatalf("%s, Rollback with a fault behind %d: %d crashes keep the root", what, fault, newers)
			}
		}
		x.rollback()
		if _, newers := eachCrash(t, what+", rolled back", stillOf(t, x.d), x.b, x.next); newers > 0 {
			t.Fatalf("%s: %d crashes keep the root behind Rollback", what, newers)
		}
	})
}

func TestCrashesBetweenCommits(t *testing.T) {
	x := busy(t)
	next := x.b.copy()
	for frame := range 8 {
		x.s.Evict(frame)
	}
	if len(x.d.Cached()) == 0 {
		t.Fatal("nothing is saved")
	}
	if _, newers := eachCrash(t, "between commits", stillOf(t, x.d), x.b, next); newers > 0 {
		t.Fatalf("%d crashes keep something", newers)
	}
	x.commit([4]uint64{})
	if _, newers := eachCrash(t, "behind a commit", stillOf(t, x.d), x.b, x.b); newers > 0 {
		t.Fatalf("%d crashes lose something", newers)
	}
}

func TestCrashesOfALongTable(t *testing.T) {
	// Both chains of several pages, taken here and there.
	phys := make([]int, 13000)
	for n := range 8 {
		phys[n] = 30 - 2*n
	}
	phys[12999] = 11
	c := crafted(40, phys, []int{2, 9, 4, 33}, []int{20 + 15})
	run := func(fault int) (doubtful, api.Errno) {
		x := doubtful{both: &both{t, c.disk(t), nil, bookOf(t, c)}}
		x.s = open(t, "a long table", x.d, 8)
		x.write(3, api.PageDir, plain(3, 50))
		x.free(12999)
		x.create(api.PageOver, plain(4, 50))
		x.next = x.b.copy()
		wantErr(t, "the model's commit", x.next.commit([4]uint64{6}), api.OK)
		fail(t, x.d, fault)
		return x, x.s.Commit([4]uint64{6})
	}
	var x doubtful
	count := each(t, "Commit", func(fault int) (err api.Errno) {
		x, err = run(fault)
		return err
	}, func(what string) {
		for _, c := range []api.Crash{{Torn: -1}, {Torn: 0, Bytes: 88}, {Torn: -1, Keep: slices.Repeat([]bool{true}, 1000)}} {
			d := stillOf(t, x.d).disk(t)
			wantErr(t, "Crash", d.Crash(c), api.OK)
			told := toldOf(t, d.Image())
			if told == nil {
				t.Fatalf("%s: the disk has no store", what)
			}
			if told.root == x.next.root {
				wantSame(t, what, told, x.next)
			} else {
				wantSame(t, what, told, x.b)
			}
			wantTold(t, what, open(t, what, d, 8), told)
		}
	})
	wantTold(t, "Commit", x.s, x.next)
	wantKept(t, "Commit", x.d, x.next)
	if count < 8*(2+2)+1+9 {
		t.Fatalf("a commit of %d operations", count)
	}
}

// Scripts: all of it, by turns, held against the plain model.

// script tells numbers, one behind the other; noughts behind its end.
type script []byte

func (s *script) next(below int) int {
	if len(*s) == 0 {
		return 0
	}
	n := int((*s)[0])
	*s = (*s)[1:]
	if below > 256 && len(*s) > 0 {
		n = n<<8 + int((*s)[0])
		*s = (*s)[1:]
	}
	return n % below
}

// play is a store, its book, and which pages are pinned, how often.
type play struct {
	*both
	pins map[int]int
	next *book // what a commit that was broken comes to; nil: there was none
}

// step is one call; it answers the call's error, and the model's. With an I/O error the model is left as it was.
func (p *play) step(s *script) (string, func() api.Errno, func() api.Errno) {
	n, kind, body := s.next(9)-1, s.next(6)+3, plain(uint64(len(*s)), s.next(room+3))
	meta := [4]uint64{uint64(n), uint64(kind), uint64(len(body)), math.MaxUint64}
	var got int
	switch op := s.next(16); op {
	case 0, 1, 2:
		return "Write", func() api.Errno { return p.s.Write(n, kind, body) }, func() api.Errno { return p.b.write(n, kind, body) }
	case 3, 4, 5:
		return "New", func() (err api.Errno) {
				got, err = p.s.New(kind, body)
				return err
			}, func() api.Errno {
				want, err := p.b.create(kind, body)
				wantCount(p.t, "New", got, want)
				return err
			}
	case 6, 7:
		at := p.at(n)
		return "Free", func() api.Errno { return p.s.Free(n) }, func() api.Errno {
			if p.b.fresh[at] {
				delete(p.pins, at)
			}
			return p.b.drop(n)
		}
	case 8, 9:
		return "Commit", func() api.Errno {
			p.next = p.b.copy()
			if p.next.commit(meta) != api.OK {
				p.next = nil
			}
			return p.s.Commit(meta)
		}, func() api.Errno { return p.b.commit(meta) }
	case 10:
		return "Rollback", p.s.Rollback, func() api.Errno { p.back(); return api.OK }
	case 11:
		at := p.at(n)
		if len(p.pins) > 4 && p.pins[at] == 0 {
			break
		}
		return "Pin", func() api.Errno { return p.s.Pin(n) }, func() api.Errno {
			if at == 0 {
				return api.ErrNone
			}
			p.pins[at]++
			return api.OK
		}
	case 12:
		at := p.at(n)
		return "Unpin", func() api.Errno { return p.s.Unpin(n) }, func() api.Errno {
			if p.pins[at] == 0 {
				return api.ErrNone
			}
			if p.pins[at]--; p.pins[at] == 0 {
				delete(p.pins, at)
			}
			return api.OK
		}
	case 13:
		frame := kind
		// Whether there is a page in it, the book does not know.
		return "Evict", func() api.Errno {
			if err := p.s.Evict(frame % 8); err != api.ErrNone {
				return err
			}
			return api.OK
		}, func() api.Errno { return api.OK }
	}
	return "Read", func() api.Errno { _, err := p.s.Read(n); return err }, func() api.Errno {
		if p.at(n) == 0 {
			return api.ErrNone
		}
		return api.OK
	}
}

func (p *play) at(n int) int {
	if !p.b.is(n) {
		return 0
	}
	return p.b.now.phys[n]
}

func (p *play) back() {
	p.b.rollback()
	clear(p.pins)
}

// crash loses the store, and opens the disk again: what it has is the last commit's, or that of the one that was broken.
func (p *play) crash(s *script) {
	p.t.Helper()
	fail(p.t, p.d, -1)
	c := api.Crash{Torn: s.next(20) - 1, Bytes: s.next(514) - 1, Keep: make([]bool, len(p.d.Cached()))}
	all, few := s.next(3), s.next(256)
	for i := range c.Keep {
		c.Keep[i] = all == 0 || all == 1 && few>>(i%8)&1 == 1
	}
	wantErr(p.t, "Crash", p.d.Crash(c), api.OK)
	told := toldOf(p.t, p.d.Image())
	if told == nil {
		p.t.Fatal("a crash leaves no store")
	}
	if p.next != nil && told.root == p.next.root {
		wantSame(p.t, "a crash", told, p.next)
		p.b = p.next
	} else {
		p.back()
		wantSame(p.t, "a crash", told, p.b)
	}
	clear(p.pins)
	p.next = nil
	p.s = open(p.t, "a crash", p.d, 8+s.next(4))
	p.want("Open behind a crash")
}

// repair rolls a broken store back, with faults between, or gives it up.
func (p *play) repair(s *script) {
	p.t.Helper()
	wantBroken(p.t, "broken", p.s)
	wantTold(p.t, "broken", p.s, p.b)
	wantUntouched(p.t, "broken", p.d, p.b)
	for s.next(3) > 0 {
		fail(p.t, p.d, s.next(50))
		if err := p.s.Rollback(); err == api.OK {
			fail(p.t, p.d, -1)
			p.back()
			p.next = nil
			p.want("Rollback")
			return
		} else {
			wantErr(p.t, "Rollback", err, api.ErrIO)
		}
		wantBroken(p.t, "Rollback", p.s)
	}
	if s.next(2) == 0 {
		p.crash(s)
		return
	}
	fail(p.t, p.d, -1)
	p.back()
	p.next = nil
	wantErr(p.t, "Rollback", p.s.Rollback(), api.OK)
	p.want("Rollback")
}

// run plays a script to its end.
func run(t testing.TB, pages int, s script) {
	t.Helper()
	p := &play{both: formatted(t, pages, 8), pins: map[int]int{}}
	for len(s) > 0 {
		if s.next(40) == 0 {
			p.crash(&s)
			continue
		}
		faulty := s.next(6) == 0
		what, call, model := p.step(&s)
		if faulty {
			fail(t, p.d, s.next(80))
		}
		err := call()
		fail(t, p.d, -1)
		if err == api.ErrIO && faulty {
			p.repair(&s)
			continue
		}
		p.next = nil
		wantErr(t, what, err, model())
		wantTold(t, what, p.s, p.b)
		wantUntouched(t, what, p.d, p.b)
		if what == "Commit" && err == api.OK {
			wantKept(t, what, p.d, p.b)
		}
		if s.next(8) == 0 {
			p.want(what)
		}
	}
}

func TestScripts(t *testing.T) {
	for seed := range 150 {
		run(t, 8+seed%20, plain(uint64(seed), 2000))
	}
}

func FuzzScripts(f *testing.F) {
	for seed := range 20 {
		f.Add(seed, plain(uint64(seed), 300))
	}
	f.Fuzz(func(t *testing.T, pages int, s []byte) {
		run(t, 8+int(uint(pages)%40), s[:min(len(s), 3000)])
	})
}

// FuzzOpen: of disks whose pages' sums fit, whatever else they have.
func FuzzOpen(f *testing.F) {
	c := crafted(16, []int{0, 9, 4, 0, 12}, []int{7}, []int{3})
	f.Add(uint64(7), uint64(7), uint64(3), uint64(5), c.table, c.space, uint32(0), uint32(0))
	f.Add(uint64(8), uint64(7), uint64(3), uint64(2), tableBytes([]int{0, 15}), spaceBytes(16, []int{0, 1, 3, 7, 15}), uint32(0), uint32(9))
	f.Fuzz(func(t *testing.T, epoch, head, other, logical uint64, entries, bits []byte, next, after uint32) {
		c := crafted(16, nil, []int{7}, []int{3}).of(func(c *craft) {
			c.root.Epoch, c.root.Table, c.root.Space, c.root.Logical = epoch, head, other, logical
			c.table, c.space = entries[:min(len(entries), link)], bits[:min(len(bits), link)]
			c.tableOn, c.spaceOn = nil, nil
			c.bodies[7] = chained(2, []int{7, int(next)}, append(c.table, make([]byte, link)...)[:link])[7]
			c.bodies[3] = chained(3, []int{3, int(after)}, append(c.space, make([]byte, link)...)[:link])[3]
			if next == 0 {
				c.bodies[7] = chained(2, []int{7}, c.table)[7]
			}
			if after == 0 {
				c.bodies[3] = chained(3, []int{3}, c.space)[3]
			}
		})
		told := toldOf(t, c.image())
		d := c.disk(t)
		s, err := Open(d, 8)
		if told == nil {
			wantNone(t, "Open", s, err, api.ErrBad)
			return
		}
		wantErr(t, "Open", err, api.OK)
		wantTold(t, "Open", s, told)
		wantErr(t, "Rollback", s.Rollback(), api.OK)
		wantTold(t, "Rollback", s, told)
	})
}

// Rule 3: what is handed in is left alone, and what is answered is new memory.

// roomy answers b's bytes with spare room behind them, all of it marked.
func roomy(b []byte) []byte {
	more := append(slices.Clone(b), bytes.Repeat([]byte{0xee}, 64)...)
	return more[:len(b)]
}

func spoil[E any](l []E, x E) {
	l = l[:cap(l)]
	for i := range l {
		l[i] = x
	}
}

func TestBodiesAreLeftAlone(t *testing.T) {
	for _, length := range []int{0, 1, 100, room - 1, room} {
		x := formatted(t, 24, 8)
		body := roomy(plain(5, length))
		x.create(api.PageSlots, body)
		other := roomy(plain(6, length))
		x.create(api.PageDir, nil)
		x.write(1, api.PageDir, other)
		for what, b := range map[string][]byte{"New": body, "Write": other} {
			from := uint64(5)
			if what == "Write" {
				from = 6
			}
			if !bytes.Equal(b, plain(from, length)) || !bytes.Equal(b[:length+64][length:], bytes.Repeat([]byte{0xee}, 64)) {
				t.Fatalf("%s changes its body of %d bytes", what, length)
			}
			spoil(b, 0x77)
		}
		x.want("bodies spoilt behind the calls")
		x.commit([4]uint64{})
		x.want("bodies spoilt behind the calls, committed")
		spoil(body, 0x78)
		x.s = open(t, "bodies spoilt", x.d, 8)
		x.want("bodies spoilt behind the calls, opened")
	}
}

func TestAnswersAreNew(t *testing.T) {
	x := some(t, 24, 8)
	for range 2 {
		for range 2 {
			for n := range 6 {
				if p, err := x.s.Read(n); err == api.OK {
					spoil(p.Body, 0x55)
				}
			}
			spoil(x.s.Table().Phys, 6)
			spoil(x.s.Own(), 7)
			spoil(x.s.Fresh(), 8)
			x.want("behind answers that are spoilt")
		}
		// Those that were asked ahead stay as they are, whatever is done.
		phys, own, fresh := x.s.Table().Phys, x.s.Own(), x.s.Fresh()
		had := slices.Concat(phys, own, fresh)
		p, err := x.s.Read(2)
		wantErr(t, "Read", err, api.OK)
		body := slices.Clone(p.Body)
		x.write(2, api.PageOver, plain(99, room))
		x.free(3)
		x.create(api.PageSlots, nil)
		x.commit([4]uint64{})
		x.create(api.PageSlots, nil)
		if !slices.Equal(slices.Concat(phys, own, fresh), had) || !bytes.Equal(p.Body, body) {
			t.Fatal("what was answered changes later")
		}
		x.rollback()
	}
}

func TestAnswersAreApart(t *testing.T) {
	x := some(t, 24, 8)
	apart := func(what string, a, b []int) {
		t.Helper()
		want := slices.Clone(b)
		spoil(a, -5)
		wantInts(t, what, b, want)
	}
	apart("Table twice", x.s.Table().Phys, x.s.Table().Phys)
	apart("Own twice", x.s.Own(), x.s.Own())
	apart("Fresh twice", x.s.Fresh(), x.s.Fresh())
	a, err := x.s.Read(2)
	wantErr(t, "Read", err, api.OK)
	b, err := x.s.Read(2)
	wantErr(t, "Read", err, api.OK)
	spoil(a.Body, 0x99)
	wantPage(t, "Read twice", b, 2, x.b.now.has[2])
	// Stores of one disk share nothing but the disk, and those of two nothing.
	y := some(t, 24, 8)
	y.rollback()
	y.want("one")
	x.want("the other one")
}

func TestErrorsLeaveAll(t *testing.T) {
	x := some(t, 20, 8)
	for len(x.b.free()) > 0 {
		x.create(api.PageSlots, nil)
	}
	image, cached := x.d.Image(), x.d.Cached()
	for range 3 {
		wantErr(t, "Commit", x.s.Commit([4]uint64{8, 8, 8, 8}), api.ErrFull)
		wantErr(t, "Write", x.s.Write(4, api.PageOver, plain(1, 5)), api.ErrFull)
		x.create(api.PageSlots, plain(2, 5))
		wantTold(t, "errors", x.s, x.b)
	}
	if !bytes.Equal(x.d.Image(), image) || !slices.Equal(x.d.Cached(), cached) {
		t.Fatal("an error writes to the disk")
	}
	x.want("errors")
}
