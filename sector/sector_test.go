package sector

import (
	"bytes"
	"math"
	"slices"
	"testing"

	"tallyman/api"
)

const size = api.SectorSize

// all is a row of one byte's like.
func all(x byte) []byte { return bytes.Repeat([]byte{x}, size) }

// plain are bytes without a pattern, told by where they begin.
func plain(from uint64, n int) []byte {
	b := make([]byte, n)
	for i, w := 0, from*2+1; i < n; i++ {
		w = w*6364136223846793005 + 1442695040888963407
		b[i] = byte(w >> 56)
	}
	return b
}

func newDisk(t *testing.T, sectors int) *Disk {
	t.Helper()
	d, err := New(sectors)
	if d == nil || err != api.OK {
		t.Fatalf("New of %d: %v, error %d", sectors, d, err)
	}
	return d
}

func diskOf(t *testing.T, b []byte) *Disk {
	t.Helper()
	d, err := Of(b)
	if d == nil || err != api.OK {
		t.Fatalf("Of of %d bytes: error %d", len(b), err)
	}
	return d
}

func write(t *testing.T, d *Disk, n int, b []byte) {
	t.Helper()
	wantErr(t, "Write", d.Write(n, b), api.OK)
}

func wantErr(t *testing.T, about any, err, want api.Errno) {
	t.Helper()
	if err != want {
		t.Errorf("%v: error %d, want %d", about, err, want)
	}
}

func wantRead(t *testing.T, d *Disk, n int, want []byte) {
	t.Helper()
	if b, err := d.Read(n); err != api.OK || !bytes.Equal(b, want) {
		t.Errorf("Read of %d: error %d, %d bytes, % x.., want % x..", n, err, len(b), head(b), head(want))
	}
}

func wantCached(t *testing.T, d *Disk, want ...int) {
	t.Helper()
	if got := d.Cached(); !slices.Equal(got, want) {
		t.Errorf("Cached: %v, want %v", got, want)
	}
}

func wantImage(t *testing.T, d *Disk, rows ...[]byte) {
	t.Helper()
	got, want := d.Image(), slices.Concat(rows...)
	if len(got) != len(want) {
		t.Errorf("Image: %d bytes, want %d", len(got), len(want))
		return
	}
	for i := range want {
		if got[i] != want[i] {
			t.Errorf("Image: sector %d, byte %d: %x, want %x", i/size, i%size, got[i], want[i])
			return
		}
	}
}

// wantWhole tells that no fault waits: more operations than any fault here waits for are all done.
func wantWhole(t *testing.T, d *Disk) {
	t.Helper()
	for i := range 20 {
		if _, err := d.Read(0); err != api.OK {
			t.Errorf("Read %d with no fault: error %d", i, err)
			return
		}
	}
}

func head(b []byte) []byte { return b[:min(4, len(b))] }

// The chapter's examples.

func TestExamples(t *testing.T) {
	d := newDisk(t, 4)
	write(t, d, 2, all('a'))
	write(t, d, 0, all('b'))
	wantCached(t, d, 2, 0)
	if d.Image()[0] != 0 {
		t.Errorf("Image's first byte: %x", d.Image()[0])
	}
	wantErr(t, "Crash", d.Crash(api.Crash{Keep: []bool{true}, Torn: 1, Bytes: 3}), api.OK)
	torn := append([]byte("bbb"), make([]byte, size-3)...)
	wantRead(t, d, 2, all('a'))
	wantRead(t, d, 0, torn)
	wantImage(t, d, torn, all(0), all('a'), all(0))
}

// P4.1

func TestNew(t *testing.T) {
	for _, sectors := range []int{math.MinInt, math.MinInt32, -api.MaxSectors, -1, 0, api.MaxSectors + 1, 1 << 31, 1 << 32, math.MaxInt/size + 2, math.MaxInt} {
		d, err := New(sectors)
		if d != nil || err != api.ErrArg {
			t.Errorf("New of %d: a disk %v, error %d", sectors, d != nil, err)
		}
	}
	for _, sectors := range []int{1, 2, 7, 8, api.MaxSectors - 1, api.MaxSectors} {
		d := newDisk(t, sectors)
		if d.Sectors() != sectors || len(d.Image()) != sectors*size || slices.Max(d.Image()) != 0 {
			t.Errorf("New of %d: %d sectors, %d bytes", sectors, d.Sectors(), len(d.Image()))
		}
		wantCached(t, d)
		wantWhole(t, d)
		wantRead(t, d, sectors-1, all(0))
		write(t, d, sectors-1, all(1))
		wantRead(t, d, sectors-1, all(1))
	}
}

func TestOf(t *testing.T) {
	whole := plain(1, (api.MaxSectors+1)*size)
	for _, n := range []int{0, 1, size - 1, size + 1, 2*size - 1, 2*size + 1, api.MaxSectors*size - 1, api.MaxSectors*size + 1, (api.MaxSectors + 1) * size} {
		d, err := Of(whole[:n])
		if d != nil || err != api.ErrArg {
			t.Errorf("Of of %d bytes: a disk %v, error %d", n, d != nil, err)
		}
	}
	if d, err := Of(nil); d != nil || err != api.ErrArg {
		t.Errorf("Of of nil: a disk %v, error %d", d != nil, err)
	}
	for _, sectors := range []int{1, 2, 3, api.MaxSectors} {
		b := whole[:sectors*size]
		d := diskOf(t, b)
		if d.Sectors() != sectors || !bytes.Equal(d.Image(), b) {
			t.Errorf("Of of %d sectors: %d, its bytes %v", sectors, d.Sectors(), bytes.Equal(d.Image(), b))
		}
		wantCached(t, d)
		wantWhole(t, d)
		wantRead(t, d, 0, b[:size])
		wantRead(t, d, sectors-1, b[len(b)-size:])
	}
}

func TestDisksAreApart(t *testing.T) {
	a := newDisk(t, 2)
	write(t, a, 0, all(1))
	wantErr(t, "Flush", a.Flush(), api.OK)
	write(t, a, 1, all(2))
	b := diskOf(t, a.Image())
	wantCached(t, b)
	wantImage(t, b, all(1), all(0))
	write(t, b, 0, all(3))
	wantErr(t, "Fail", b.Fail(0), api.OK)
	wantRead(t, a, 0, all(1))
	wantRead(t, a, 1, all(2))
	wantErr(t, "Flush", b.Flush(), api.ErrIO)
}

// P4.2

func TestDiskThatNobodyMade(t *testing.T) {
	for _, d := range []*Disk{nil, {}, new(Disk)} {
		for range 2 {
			for _, n := range []int{-1, 0, 1} {
				b, err := d.Read(n)
				wantErr(t, "Read", err, api.ErrNil)
				if b != nil {
					t.Errorf("Read: %d bytes", len(b))
				}
				wantErr(t, "Write", d.Write(n, all(1)), api.ErrNil)
				wantErr(t, "Write of nil", d.Write(n, nil), api.ErrNil)
				wantErr(t, "Fail", d.Fail(n), api.ErrNil)
				wantErr(t, "Crash", d.Crash(api.Crash{Keep: []bool{true}, Torn: n, Bytes: 1}), api.ErrNil)
			}
			wantErr(t, "Flush", d.Flush(), api.ErrNil)
			if d.Sectors() != 0 || len(d.Cached()) != 0 || len(d.Image()) != 0 {
				t.Errorf("%d sectors, %d cached, %d bytes", d.Sectors(), len(d.Cached()), len(d.Image()))
			}
		}
	}
}

func TestWrongArguments(t *testing.T) {
	d := diskOf(t, plain(2, 3*size))
	for _, n := range []int{math.MinInt, -3, -1, 3, 4, 3 * size, api.MaxSectors, math.MaxInt/size + 1, math.MaxInt} {
		b, err := d.Read(n)
		if b != nil || err != api.ErrArg {
			t.Errorf("Read of %d: %d bytes, error %d", n, len(b), err)
		}
		wantErr(t, n, d.Write(n, all(1)), api.ErrArg)
		wantErr(t, n, d.Write(n, nil), api.ErrArg)
	}
	for _, long := range []int{0, 1, size - 1, size + 1, 2 * size} {
		wantErr(t, long, d.Write(0, make([]byte, long)), api.ErrArg)
	}
	wantErr(t, "nil", d.Write(0, nil), api.ErrArg)
	wantCached(t, d)
	wantImage(t, d, plain(2, 3*size))
}

func TestReadIsTheCachesFirst(t *testing.T) {
	d := diskOf(t, slices.Concat(all(1), all(2), all(3)))
	write(t, d, 1, all(9))
	for range 2 {
		wantRead(t, d, 0, all(1))
		wantRead(t, d, 1, all(9))
		wantRead(t, d, 2, all(3))
	}
	wantImage(t, d, all(1), all(2), all(3))
	write(t, d, 1, plain(3, size))
	wantRead(t, d, 1, plain(3, size))
	write(t, d, 0, all(0))
	wantRead(t, d, 0, all(0))
}

func TestFlush(t *testing.T) {
	d := newDisk(t, 3)
	wantErr(t, "Flush of nothing", d.Flush(), api.OK)
	wantImage(t, d, all(0), all(0), all(0))
	write(t, d, 2, all(2))
	write(t, d, 0, all(1))
	write(t, d, 2, all(3))
	wantErr(t, "Flush", d.Flush(), api.OK)
	wantCached(t, d)
	wantImage(t, d, all(1), all(0), all(3))
	wantRead(t, d, 2, all(3))
	write(t, d, 0, all(4))
	wantCached(t, d, 0)
	wantImage(t, d, all(1), all(0), all(3))
}

// operations are the three, each told by its error alone; none of them changes a disk of noughts.
func operations() map[string]func(*Disk) api.Errno {
	return map[string]func(*Disk) api.Errno{
		"Read":  func(d *Disk) api.Errno { _, err := d.Read(0); return err },
		"Write": func(d *Disk) api.Errno { return d.Write(0, all(0)) },
		"Flush": (*Disk).Flush,
	}
}

func TestFaultOfEachOperation(t *testing.T) {
	for aheadName, ahead := range operations() {
		for name, operation := range operations() {
			for _, after := range []int{0, 1, 2, 5} {
				d := newDisk(t, 1)
				wantErr(t, "Fail", d.Fail(after), api.OK)
				for i := range after {
					if err := ahead(d); err != api.OK {
						t.Errorf("%s %d of %d ahead of the fault: error %d", aheadName, i, after, err)
					}
				}
				if err := operation(d); err != api.ErrIO {
					t.Errorf("%s behind %d of %s: error %d", name, after, aheadName, err)
				}
				wantWhole(t, d)
			}
		}
	}
}

func TestFailedOperationDoesNothing(t *testing.T) {
	d := newDisk(t, 2)
	write(t, d, 1, all(1))
	d.Fail(0)
	wantErr(t, "Write", d.Write(1, all(2)), api.ErrIO)
	wantRead(t, d, 1, all(1))
	d.Fail(0)
	wantErr(t, "Write of a new one", d.Write(0, all(2)), api.ErrIO)
	wantRead(t, d, 0, all(0))
	wantCached(t, d, 1)
	d.Fail(0)
	wantErr(t, "Flush", d.Flush(), api.ErrIO)
	wantCached(t, d, 1)
	wantImage(t, d, all(0), all(0))
	d.Fail(0)
	if b, err := d.Read(1); b != nil || err != api.ErrIO {
		t.Errorf("Read: %d bytes, error %d", len(b), err)
	}
	wantErr(t, "Flush", d.Flush(), api.OK)
	wantImage(t, d, all(0), all(1))
}

// What is no operation neither fails nor counts, and leaves the fault where it waits.
func TestOtherCallsWhileAFaultWaits(t *testing.T) {
	for _, after := range []int{0, 1, 3} {
		d := newDisk(t, 2)
		others := func() {
			for range 5 {
				_, err := d.Read(2)
				wantErr(t, "Read", err, api.ErrArg)
				_, err = d.Read(-1)
				wantErr(t, "Read", err, api.ErrArg)
				wantErr(t, "Write of none", d.Write(2, all(1)), api.ErrArg)
				wantErr(t, "Write of 511", d.Write(0, make([]byte, size-1)), api.ErrArg)
				wantErr(t, "Write of 513", d.Write(0, make([]byte, size+1)), api.ErrArg)
				if d.Sectors() != 2 || len(d.Image()) != 2*size || len(d.Cached()) > 1 {
					t.Error("what a disk has while a fault waits")
				}
			}
		}
		d.Fail(after)
		for range after {
			others()
			wantErr(t, "Write", d.Write(1, all(1)), api.OK)
		}
		others()
		wantErr(t, "Write", d.Write(1, all(2)), api.ErrIO)
		others()
		wantWhole(t, d)
	}
}

func TestFaultIsTakenBack(t *testing.T) {
	for _, after := range []int{0, 1, 4, math.MaxInt} {
		for _, below := range []int{-1, -2, math.MinInt} {
			d := newDisk(t, 1)
			d.Fail(after)
			wantErr(t, "Fail", d.Fail(below), api.OK)
			wantWhole(t, d)
		}
	}
	d := newDisk(t, 1)
	d.Fail(3)
	wantErr(t, "Flush", d.Flush(), api.OK)
	d.Fail(-1)
	wantWhole(t, d)
	wantErr(t, "Fail with none", d.Fail(-1), api.OK)
	wantWhole(t, d)
}

func TestFaultIsLaidAnew(t *testing.T) {
	d := newDisk(t, 1)
	d.Fail(0)
	d.Fail(2)
	wantErr(t, "first", d.Flush(), api.OK)
	d.Fail(1)
	wantErr(t, "second", d.Flush(), api.OK)
	wantErr(t, "third", d.Flush(), api.ErrIO)
	wantWhole(t, d)
	d.Fail(5)
	d.Fail(0)
	wantErr(t, "at once", d.Flush(), api.ErrIO)
	wantWhole(t, d)
	d.Fail(math.MaxInt)
	wantWhole(t, d)
}

// The cache has the sectors 3, 0, 2 of a disk of 1s; want tells how many first bytes of each are kept.
func TestCrash(t *testing.T) {
	yes, no := true, false
	for _, x := range []struct {
		about string
		c     api.Crash
		want  [3]int
	}{
		{"keeps none, torn of nothing", api.Crash{}, [3]int{0, 0, 0}},
		{"keeps none", api.Crash{Torn: -1}, [3]int{0, 0, 0}},
		{"keeps none by an empty list", api.Crash{Keep: []bool{}, Torn: -1}, [3]int{0, 0, 0}},
		{"keeps all", api.Crash{Keep: []bool{yes, yes, yes}, Torn: -1}, [3]int{size, size, size}},
		{"keeps the middle", api.Crash{Keep: []bool{no, yes, no}, Torn: -1}, [3]int{0, size, 0}},
		{"fewer places", api.Crash{Keep: []bool{no, yes}, Torn: -1}, [3]int{0, size, 0}},
		{"one place", api.Crash{Keep: []bool{yes}, Torn: -1}, [3]int{size, 0, 0}},
		{"more places", api.Crash{Keep: []bool{no, no, yes, yes, yes}, Torn: -1}, [3]int{0, 0, size}},
		{"torn where it keeps", api.Crash{Keep: []bool{yes, yes, yes}, Torn: 1, Bytes: 7}, [3]int{size, 7, size}},
		{"torn where it keeps not", api.Crash{Keep: []bool{yes, no, no}, Torn: 2, Bytes: 7}, [3]int{size, 0, 7}},
		{"torn where Keep has no place", api.Crash{Torn: 2, Bytes: 7}, [3]int{0, 0, 7}},
		{"torn at the first", api.Crash{Keep: []bool{no, yes}, Torn: 0, Bytes: 511}, [3]int{511, size, 0}},
		{"torn behind the last", api.Crash{Keep: []bool{yes, no, yes, yes}, Torn: 3, Bytes: 7}, [3]int{size, 0, size}},
		{"torn ahead of the first", api.Crash{Keep: []bool{yes, no, yes}, Torn: -1, Bytes: 7}, [3]int{size, 0, size}},
		{"torn of the least", api.Crash{Keep: []bool{yes}, Torn: math.MinInt, Bytes: 7}, [3]int{size, 0, 0}},
		{"torn of the greatest", api.Crash{Keep: []bool{yes}, Torn: math.MaxInt, Bytes: 7}, [3]int{size, 0, 0}},
		{"-1 bytes of one that is kept", api.Crash{Keep: []bool{yes, yes}, Torn: 1, Bytes: -1}, [3]int{size, size, 0}},
		{"-1 bytes of one that is lost", api.Crash{Keep: []bool{yes, no}, Torn: 1, Bytes: -1}, [3]int{size, 0, 0}},
		{"0 bytes of one that is kept", api.Crash{Keep: []bool{yes, yes}, Torn: 1, Bytes: 0}, [3]int{size, 0, 0}},
		{"1 byte", api.Crash{Torn: 1, Bytes: 1}, [3]int{0, 1, 0}},
		{"512 bytes of one that is lost", api.Crash{Torn: 1, Bytes: 512}, [3]int{0, size, 0}},
		{"513 bytes of one that is lost", api.Crash{Torn: 1, Bytes: 513}, [3]int{0, 0, 0}},
		{"513 bytes of one that is kept", api.Crash{Keep: []bool{no, yes}, Torn: 1, Bytes: 513}, [3]int{0, size, 0}},
		{"the fewest bytes", api.Crash{Keep: []bool{yes}, Torn: 0, Bytes: math.MinInt}, [3]int{size, 0, 0}},
		{"the most bytes", api.Crash{Keep: []bool{yes}, Torn: 0, Bytes: math.MaxInt}, [3]int{size, 0, 0}},
	} {
		d := diskOf(t, bytes.Repeat([]byte{1}, 4*size))
		rows := [4][]byte{all(1), all(1), all(1), all(1)}
		for place, n := range []int{3, 0, 2} {
			latest := plain(uint64(place), size)
			write(t, d, n, latest)
			rows[n] = append(latest[:x.want[place]:x.want[place]], all(1)[x.want[place]:]...)
		}
		d.Fail(0)
		wantErr(t, x.about, d.Crash(x.c), api.OK)
		t.Run(x.about, func(t *testing.T) {
			wantCached(t, d)
			wantImage(t, d, rows[:]...)
			for n := range rows {
				wantRead(t, d, n, rows[n])
			}
			wantWhole(t, d)
		})
	}
}

// The place in the cache counts, not the sector; one that is written again keeps its place, with its latest bytes.
func TestCrashOfASectorThatIsWrittenTwice(t *testing.T) {
	d := newDisk(t, 4)
	write(t, d, 2, all(1))
	write(t, d, 0, all(2))
	write(t, d, 2, all(3))
	wantCached(t, d, 2, 0)
	d.Crash(api.Crash{Keep: []bool{true}, Torn: -1})
	wantImage(t, d, all(0), all(0), all(3), all(0))

	write(t, d, 1, all(4))
	write(t, d, 2, all(5))
	write(t, d, 1, all(6))
	d.Crash(api.Crash{Torn: 0, Bytes: 2})
	wantImage(t, d, all(0), append([]byte{6, 6}, make([]byte, size-2)...), all(3), all(0))
}

func TestCrashOfNothing(t *testing.T) {
	d := diskOf(t, plain(5, 2*size))
	wantErr(t, "Crash", d.Crash(api.Crash{Keep: []bool{true, true, true}, Torn: 0, Bytes: 9}), api.OK)
	wantImage(t, d, plain(5, 2*size))
	wantCached(t, d)
}

func TestCrashTakesTheFaultAway(t *testing.T) {
	for _, after := range []int{0, 1, 4} {
		d := newDisk(t, 1)
		d.Fail(after)
		wantErr(t, "Crash", d.Crash(api.Crash{}), api.OK)
		wantWhole(t, d)
	}
}

// P4.3

func TestCachedKeepsTheFirstOrder(t *testing.T) {
	d := newDisk(t, 40)
	var want []int
	for i := range 120 {
		n := i * 27 % 40
		if !slices.Contains(want, n) {
			want = append(want, n)
		}
		write(t, d, n, all(byte(i)))
		wantCached(t, d, want...)
	}
	wantErr(t, "Flush", d.Flush(), api.OK)
	wantCached(t, d)
	write(t, d, 7, all(1))
	write(t, d, 3, all(1))
	d.Read(9)
	wantCached(t, d, 7, 3)
	d.Crash(api.Crash{})
	write(t, d, 3, all(1))
	write(t, d, 7, all(1))
	wantCached(t, d, 3, 7)
}

func TestWholeDiskCached(t *testing.T) {
	d := newDisk(t, api.MaxSectors)
	for n := api.MaxSectors - 1; n >= 0; n-- {
		write(t, d, n, all(byte(n/256^n)))
	}
	cached := d.Cached()
	if len(cached) != api.MaxSectors || cached[0] != api.MaxSectors-1 || slices.Max(d.Image()) != 0 {
		t.Errorf("%d cached", len(cached))
	}
	wantErr(t, "Flush", d.Flush(), api.OK)
	for n, image := 0, d.Image(); n < api.MaxSectors; n++ {
		if !bytes.Equal(image[n*size:(n+1)*size], all(byte(n/256^n))) {
			t.Fatalf("sector %d: %x..", n, image[n*size])
		}
	}
}

// Rule 3 of the rules that hold everywhere.

func TestWhatIsHandedInIsNotKept(t *testing.T) {
	image := plain(6, 2*size)
	d := diskOf(t, image)
	image[0] ^= 0xff
	wantImage(t, d, plain(6, 2*size))
	b := all(1)
	write(t, d, 0, b)
	b[0] = 2
	wantRead(t, d, 0, all(1))
	wantErr(t, "Flush", d.Flush(), api.OK)
	b[1] = 3
	wantRead(t, d, 0, all(1))
	write(t, d, 0, b)
	write(t, d, 1, b)
	keep := []bool{true, false}
	d.Crash(api.Crash{Keep: keep, Torn: -1})
	if !keep[0] || keep[1] {
		t.Error("Keep is changed")
	}
	b[2], keep[1] = 4, true
	wantImage(t, d, append([]byte{2, 3}, all(1)[2:]...), plain(6, 2*size)[size:])
}

func TestWhatIsHandedInIsLeftAsItIs(t *testing.T) {
	room := plain(7, 3*size)
	d := diskOf(t, room[:size])
	write(t, d, 0, room[size:2*size])
	wantErr(t, "Flush", d.Flush(), api.OK)
	write(t, d, 0, all(9))
	if b, _ := d.Read(0); len(b) != size {
		t.Errorf("%d bytes", len(b))
	}
	keep := [3]bool{false, true, true}
	write(t, d, 0, all(8))
	d.Crash(api.Crash{Keep: keep[:0], Torn: -1})
	if !bytes.Equal(room, plain(7, 3*size)) || keep != [3]bool{false, true, true} {
		t.Error("what was handed in, or what stands behind it, is changed")
	}
	wantImage(t, d, plain(7, 3*size)[size:2*size])
}

func TestSpareRoomOfKeepIsNotRead(t *testing.T) {
	keep := []bool{false, true, true}
	d := newDisk(t, 2)
	write(t, d, 0, all(1))
	write(t, d, 1, all(2))
	d.Crash(api.Crash{Keep: keep[:1], Torn: -1})
	wantImage(t, d, all(0), all(0))
}

// spoil changes an answer, and all of its spare room.
func spoil[T byte | int](l []T) {
	l = l[:cap(l)]
	for i := range l {
		l[i] ^= 0x55
	}
}

func TestAnswersAreNewMemory(t *testing.T) {
	d := diskOf(t, slices.Concat(all(1), all(2), all(3)))
	write(t, d, 2, all(6))
	write(t, d, 1, all(5))
	for range 3 {
		for n := range 3 {
			b, _ := d.Read(n)
			again, _ := d.Read(n)
			spoil(b)
			if !bytes.Equal(again, []([]byte){all(1), all(5), all(6)}[n]) {
				t.Errorf("two answers of Read of %d share memory", n)
			}
		}
		cached, cachedAgain := d.Cached(), d.Cached()
		image, imageAgain := d.Image(), d.Image()
		spoil(cached)
		spoil(image)
		if !slices.Equal(cachedAgain, []int{2, 1}) || !bytes.Equal(imageAgain, slices.Concat(all(1), all(2), all(3))) {
			t.Error("two answers share memory")
		}
		wantRead(t, d, 0, all(1))
		wantRead(t, d, 1, all(5))
		wantRead(t, d, 2, all(6))
		wantCached(t, d, 2, 1)
		wantImage(t, d, all(1), all(2), all(3))
	}
}

func TestAnswersAreNotChangedLater(t *testing.T) {
	d := diskOf(t, slices.Concat(all(1), all(2), all(3)))
	write(t, d, 2, all(6))
	below, _ := d.Read(0)
	latest, _ := d.Read(2)
	cached, image := d.Cached(), d.Image()
	write(t, d, 2, all(7))
	write(t, d, 0, all(8))
	wantErr(t, "Flush", d.Flush(), api.OK)
	write(t, d, 1, all(9))
	d.Crash(api.Crash{Keep: []bool{true}, Torn: -1})
	if !bytes.Equal(below, all(1)) || !bytes.Equal(latest, all(6)) {
		t.Error("what Read answered is changed")
	}
	if !slices.Equal(cached, []int{2}) || !bytes.Equal(image, slices.Concat(all(1), all(2), all(3))) {
		t.Error("what Cached or Image answered is changed")
	}
}

// P4.4

// crashes are of a cache of at most places sectors: every Keep, torn nowhere and at each place.
func crashes(places int) []api.Crash {
	var l []api.Crash
	for bits := range 1 << places {
		keep := make([]bool, places)
		for i := range keep {
			keep[i] = bits>>i&1 == 1
		}
		l = append(l, api.Crash{Keep: keep, Torn: -1, Bytes: 5})
		for torn := range places {
			for _, n := range []int{-1, 0, 1, 300, 511, 512, 513} {
				l = append(l, api.Crash{Keep: keep, Torn: torn, Bytes: n})
			}
		}
	}
	return l
}

func TestBehindAFlushACrashChangesNothing(t *testing.T) {
	for _, c := range crashes(3) {
		d := diskOf(t, plain(8, 3*size))
		write(t, d, 1, all(1))
		write(t, d, 2, all(2))
		write(t, d, 1, all(3))
		wantErr(t, "Flush", d.Flush(), api.OK)
		for range 2 {
			d.Crash(c)
			wantCached(t, d)
			wantImage(t, d, plain(8, size), all(3), all(2))
		}
		wantRead(t, d, 1, all(3))
	}
}

// beginning tells whether b is the beginning of latest, and the rest of former.
func beginning(b, latest, former []byte) bool {
	n := 0
	for n < len(b) && b[n] == latest[n] {
		n++
	}
	return bytes.Equal(b[n:], former[n:])
}

func TestBehindACrashEachSectorIsFormerOrLatestButOne(t *testing.T) {
	for _, c := range crashes(4) {
		former := plain(9, 5*size)
		d := diskOf(t, former)
		latest := slices.Clone(former)
		for i, n := range []int{4, 1, 4, 0, 2, 1} {
			b := plain(uint64(20+i), size)
			write(t, d, n, b)
			copy(latest[n*size:], b)
		}
		d.Crash(c)
		mixed := 0
		for n := range 5 {
			b, _ := d.Read(n)
			old, last := former[n*size:(n+1)*size], latest[n*size:(n+1)*size]
			switch {
			case bytes.Equal(b, old), bytes.Equal(b, last):
			case beginning(b, last, old):
				mixed++
			default:
				t.Fatalf("%v: sector %d is neither, nor one's beginning and the other's rest", c, n)
			}
		}
		if mixed > 1 {
			t.Errorf("%v: %d sectors are torn", c, mixed)
		}
	}
}

// A plain disk, written apart from the program's own: every write since the last flush, one behind the other.
type plainDisk struct {
	rows   [][]byte
	writes []plainWrite
	fault  int // below 0: none
}

type plainWrite struct {
	n int
	b []byte
}

func (p *plainDisk) may() api.Errno {
	p.fault--
	if p.fault == -1 {
		return api.ErrIO
	}
	p.fault = max(p.fault, -2)
	return api.OK
}

func (p *plainDisk) cached() []int {
	var l []int
	for _, w := range p.writes {
		if !slices.Contains(l, w.n) {
			l = append(l, w.n)
		}
	}
	return l
}

func (p *plainDisk) latest(n int) []byte {
	for _, w := range slices.Backward(p.writes) {
		if w.n == n {
			return w.b
		}
	}
	return p.rows[n]
}

func (p *plainDisk) end(first func(place int) int) {
	next := slices.Clone(p.rows)
	for place, n := range p.cached() {
		k := first(place)
		next[n] = slices.Concat(p.latest(n)[:k], p.rows[n][k:])
	}
	p.rows, p.writes = next, nil
}

func (p *plainDisk) crash(c api.Crash) {
	p.fault = -2
	p.end(func(place int) int {
		if place == c.Torn && 0 <= c.Bytes && c.Bytes <= size {
			return c.Bytes
		}
		for i, keep := range c.Keep {
			if i == place && keep {
				return size
			}
		}
		return 0
	})
}

// play does what the bytes tell, to a disk and to a plain one, and holds every answer against the other's.
func play(t *testing.T, sectors int, script []byte) {
	d := newDisk(t, sectors)
	p := &plainDisk{fault: -2}
	for range sectors {
		p.rows = append(p.rows, all(0))
	}
	next := func() int {
		if len(script) == 0 {
			return 0
		}
		x := script[0]
		script = script[1:]
		return int(x)
	}
	for len(script) > 0 {
		playOne(t, d, p, next)
		if want := p.cached(); !slices.Equal(d.Cached(), want) {
			t.Fatalf("Cached: %v, want %v", d.Cached(), want)
		}
		if !bytes.Equal(d.Image(), slices.Concat(p.rows...)) {
			t.Fatal("Image is another one")
		}
		if d.Sectors() != sectors {
			t.Fatalf("%d sectors, want %d", d.Sectors(), sectors)
		}
	}
}

func playOne(t *testing.T, d *Disk, p *plainDisk, next func() int) {
	t.Helper()
	kind, n := next()%12, next()%(len(p.rows)+2)-1
	is := n >= 0 && n < len(p.rows)
	switch {
	case kind < 3:
		want, wanted := api.ErrArg, []byte(nil)
		if is {
			if want = p.may(); want == api.OK {
				wanted = p.latest(n)
			}
		}
		if b, err := d.Read(n); err != want || !bytes.Equal(b, wanted) {
			t.Fatalf("Read of %d: error %d, want %d, % x.., want % x..", n, err, want, head(b), head(wanted))
		}
	case kind < 8:
		x := next()
		b := plain(uint64(x), size)
		if x%8 == 0 {
			b = make([]byte, x*4)
		}
		want := api.ErrArg
		if is && len(b) == size {
			if want = p.may(); want == api.OK {
				p.writes = append(p.writes, plainWrite{n, b})
			}
		}
		wantErr(t, "Write", d.Write(n, b), want)
	case kind == 8:
		want := p.may()
		if want == api.OK {
			p.end(func(int) int { return size })
		}
		wantErr(t, "Flush", d.Flush(), want)
	case kind == 9:
		p.fault = n
		if n < 0 {
			p.fault = -2
		}
		wantErr(t, "Fail", d.Fail(n), api.OK)
	default:
		c := api.Crash{Torn: n, Bytes: next()*3 - 1}
		for bits := next(); bits > 1; bits /= 2 {
			c.Keep = append(c.Keep, bits%2 == 1)
		}
		p.crash(c)
		wantErr(t, "Crash", d.Crash(c), api.OK)
	}
}

func TestScripts(t *testing.T) {
	for i := range 120 {
		play(t, i%9+1, plain(uint64(100+i), 400))
	}
}

// What a disk answers hangs on its own calls alone, so the same ones have the same answers.
func TestSameCallsSameAnswers(t *testing.T) {
	script := plain(3, 900)
	run := func() ([]byte, []int) {
		d := newDisk(t, 30)
		for i, x := range script {
			d.Write(int(x)%30, plain(uint64(i), size))
			if i%100 == 99 {
				d.Crash(api.Crash{Keep: []bool{true, false, true, true}, Torn: 5, Bytes: 100})
			}
			if i == 850 {
				break
			}
		}
		return d.Image(), d.Cached()
	}
	image, cached := run()
	for range 5 {
		again, cachedAgain := run()
		if !bytes.Equal(image, again) || !slices.Equal(cached, cachedAgain) {
			t.Fatal("another image, or another cache")
		}
	}
}

func FuzzDisk(f *testing.F) {
	f.Add(uint8(1), []byte{})
	f.Add(uint8(4), []byte{3, 3, 1, 3, 1, 2, 10, 2, 1, 3})
	f.Add(uint8(3), plain(1, 200))
	f.Fuzz(func(t *testing.T, sectors uint8, script []byte) {
		play(t, int(sectors)%16+1, script)
	})
}
