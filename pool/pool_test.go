package pool

import (
	"bytes"
	"math"
	"slices"
	"testing"

	"tallyman/api"
	"tallyman/sector"
)

const size = api.PageSize

// plain are bytes without a pattern, told by where they begin.
func plain(from uint64, n int) []byte {
	b := make([]byte, n)
	for i, w := 0, from*2+1; i < n; i++ {
		w = w*6364136223846793005 + 1442695040888963407
		b[i] = byte(w >> 56)
	}
	return b
}

func all(x byte) []byte { return bytes.Repeat([]byte{x}, size) }

// had is what page n of newDisk's has at first.
func had(n int) []byte { return plain(1000+uint64(n), size) }

// newDisk is a disk of so many pages, each with bytes of its own, and so many sectors behind them.
func newDisk(t *testing.T, pages, more int) *sector.Disk {
	t.Helper()
	var image []byte
	for n := range pages {
		image = append(image, had(n)...)
	}
	d, err := sector.Of(append(image, plain(7, more*512)...))
	if err != api.OK {
		t.Fatalf("a disk of %d pages and %d sectors: error %d", pages, more, err)
	}
	return d
}

func newPool(t *testing.T, d *sector.Disk, frames int) *Pool {
	t.Helper()
	p, err := New(d, frames)
	if err != api.OK {
		t.Fatalf("a pool of %d frames: error %d", frames, err)
	}
	return p
}

// full is a disk of 24 pages, and a pool whose 8 frames have its first pages, used; the hand is 0.
func full(t *testing.T) (*sector.Disk, *Pool) {
	t.Helper()
	d := newDisk(t, 24, 3)
	p := newPool(t, d, 8)
	for n := range 8 {
		wantGet(t, "full", p, n, had(n))
	}
	return d, p
}

// noDisks are those that nobody made.
func noDisks() []*sector.Disk { return []*sector.Disk{nil, {}, new(sector.Disk)} }

// is is a frame with a page: d for dirty, u for used, p for each pin.
func is(page int, what string) api.Frame {
	f := api.Frame{Is: true, Page: page}
	for _, x := range what {
		switch x {
		case 'd':
			f.Dirty = true
		case 'u':
			f.Used = true
		case 'p':
			f.Pins++
		}
	}
	return f
}

// none is an empty frame.
func none() api.Frame { return api.Frame{} }

func wantErr(t *testing.T, about any, err, want api.Errno) {
	t.Helper()
	if err != want {
		t.Errorf("%v: error %d, want %d", about, err, want)
	}
}

func wantGet(t *testing.T, about any, p *Pool, n int, want []byte) {
	t.Helper()
	if b, err := p.Get(n); err != api.OK || !bytes.Equal(b, want) {
		t.Errorf("%v: Get of %d: error %d, %d bytes, the same %v", about, n, err, len(b), bytes.Equal(b, want))
	}
}

func wantNoGet(t *testing.T, about any, p *Pool, n int, want api.Errno) {
	t.Helper()
	if b, err := p.Get(n); err != want || len(b) != 0 {
		t.Errorf("%v: Get of %d: error %d, %d bytes, want error %d", about, n, err, len(b), want)
	}
}

func put(t *testing.T, p *Pool, n int, b []byte) {
	t.Helper()
	wantErr(t, n, p.Put(n, b), api.OK)
}

func pin(t *testing.T, p *Pool, pages ...int) {
	t.Helper()
	for _, n := range pages {
		wantErr(t, n, p.Pin(n), api.OK)
	}
}

func unpin(t *testing.T, p *Pool, pages ...int) {
	t.Helper()
	for _, n := range pages {
		wantErr(t, n, p.Unpin(n), api.OK)
	}
}

// wantFrames tells the first frames; the others are empty.
func wantFrames(t *testing.T, about any, p *Pool, want ...api.Frame) {
	t.Helper()
	got := p.Frames()
	want = append(want, make([]api.Frame, max(0, len(got)-len(want)))...)
	if !slices.Equal(got, want) {
		t.Errorf("%v: frames\n%v, want\n%v", about, got, want)
	}
}

// wantDisk holds a page of the disk, the cache's sectors among it, against b.
func wantDisk(t *testing.T, about any, d *sector.Disk, n int, want []byte) {
	t.Helper()
	for i := range 8 {
		b, err := d.Read(n*8 + i)
		if err != api.OK || !bytes.Equal(b, want[i*512:(i+1)*512]) {
			t.Errorf("%v: sector %d of page %d on the disk is another one, error %d", about, i, n, err)
		}
	}
}

// wantWritten tells the pages that were written, all of their sectors, in order.
func wantWritten(t *testing.T, about any, d *sector.Disk, pages ...int) {
	t.Helper()
	var want []int
	for _, n := range pages {
		for i := range 8 {
			want = append(want, n*8+i)
		}
	}
	if got := d.Cached(); !slices.Equal(got, want) {
		t.Errorf("%v: sectors %v are written, want %v", about, got, want)
	}
}

// wantFault tells that so many operations are still done ahead of the one that fails.
func wantFault(t *testing.T, about any, d *sector.Disk, after int) {
	t.Helper()
	for range after {
		if _, err := d.Read(0); err != api.OK {
			t.Errorf("%v: more operations than were to be", about)
			return
		}
	}
	if _, err := d.Read(0); err != api.ErrIO {
		t.Errorf("%v: fewer operations than were to be", about)
	}
	d.Fail(-1)
}

// The chapter's examples.

func TestExamples(t *testing.T) {
	d := newDisk(t, 16, 0)
	p := newPool(t, d, 8)
	for n := range 9 {
		put(t, p, n, all(byte(n+1)))
	}
	if f := p.Frames()[0]; f.Page != 8 {
		t.Errorf("the first one's page: %d", f.Page)
	}
	wantWritten(t, "page 0 was saved", d, 0)
	wantDisk(t, "page 0 was saved", d, 0, all(1))
	for _, f := range p.Frames() {
		pin(t, p, f.Page)
	}
	wantNoGet(t, "all pinned", p, 9, api.ErrFull)
}

// P7.1

func TestLimits(t *testing.T) {
	if api.MinFrames != 8 || api.MaxFrames != 256 {
		t.Error("other limits than the document's")
	}
}

func wantNoPool(t *testing.T, about any, d *sector.Disk, frames int, want api.Errno) {
	t.Helper()
	if p, err := New(d, frames); err != want || p != nil {
		t.Errorf("%v: New with %d frames: error %d, want %d, a pool %v", about, frames, err, want, p != nil)
	}
}

func wrongFrames() []int {
	return []int{math.MinInt, -256, -8, -1, 0, 1, 7, 257, 258, 512, 1<<32 + 8, math.MaxInt}
}

func TestNewOfNoDisk(t *testing.T) {
	for _, d := range noDisks() {
		for _, frames := range append(wrongFrames(), 8, 9, 256) {
			wantNoPool(t, "no disk", d, frames, api.ErrNil)
		}
	}
}

func TestNewOfADiskWithoutAPage(t *testing.T) {
	for sectors := 1; sectors < 8; sectors++ {
		d, _ := sector.New(sectors)
		for _, frames := range append(wrongFrames(), 8, 9, 256) {
			wantNoPool(t, sectors, d, frames, api.ErrArg)
		}
	}
	for _, more := range []int{0, 1, 7} {
		p := newPool(t, newDisk(t, 1, more), 8)
		wantGet(t, more, p, 0, had(0))
		wantNoGet(t, more, p, 1, api.ErrArg)
	}
}

func TestNewOfFrames(t *testing.T) {
	d := newDisk(t, 2, 0)
	d.Fail(0)
	for _, frames := range wrongFrames() {
		wantNoPool(t, "a disk", d, frames, api.ErrArg)
	}
	for _, frames := range []int{8, 9, 100, 255, 256} {
		p := newPool(t, d, frames)
		if got := p.Frames(); len(got) != frames {
			t.Errorf("%d frames, want %d", len(got), frames)
		}
		wantFrames(t, frames, p)
	}
	wantFault(t, "New", d, 0)
	wantWritten(t, "New", d)
}

func TestGreatestDisk(t *testing.T) {
	d, _ := sector.New(api.MaxSectors)
	p := newPool(t, d, 256)
	for n := range 4096 {
		put(t, p, n, all(byte(n%251)))
	}
	for _, n := range []int{0, 1, 255, 256, 3839, 3840, 4094, 4095} {
		wantGet(t, "the greatest disk", p, n, all(byte(n%251)))
	}
	wantErr(t, 4096, p.Put(4096, all(1)), api.ErrArg)
	wantNoGet(t, "behind the last one", p, 4096, api.ErrArg)
}

func TestPoolThatNobodyMade(t *testing.T) {
	for _, p := range []*Pool{nil, {}, new(Pool)} {
		for _, n := range []int{math.MinInt, -1, 0, 1, math.MaxInt} {
			wantNoGet(t, "nobody's", p, n, api.ErrNil)
			wantErr(t, "Put", p.Put(n, all(1)), api.ErrNil)
			wantErr(t, "Put", p.Put(n, nil), api.ErrNil)
			wantErr(t, "Pin", p.Pin(n), api.ErrNil)
			wantErr(t, "Unpin", p.Unpin(n), api.ErrNil)
			wantErr(t, "Evict", p.Evict(n), api.ErrNil)
			wantErr(t, "Drop", p.Drop(n), api.ErrNil)
		}
		wantErr(t, "Clean", p.Clean(), api.ErrNil)
		wantErr(t, "Flush", p.Flush(), api.ErrNil)
		wantErr(t, "Reset", p.Reset(), api.ErrNil)
		if l := p.Frames(); len(l) != 0 {
			t.Errorf("Frames: %v", l)
		}
	}
}

func TestPoolsAreApart(t *testing.T) {
	d := newDisk(t, 4, 0)
	p, q := newPool(t, d, 8), newPool(t, d, 9)
	put(t, p, 1, all(1))
	wantGet(t, "the other pool", q, 1, had(1))
	pin(t, p, 1)
	wantErr(t, "the other pool's pin", q.Unpin(1), api.ErrNone)
	wantFrames(t, "one", p, is(1, "dup"))
	wantFrames(t, "the other one", q, is(1, "u"))
}

// P7.2

// wrongPages are no pages of a disk of so many.
func wrongPages(pages int) []int {
	return []int{math.MinInt, -pages, -2, -1, pages, pages + 1, 2 * pages, 1 << 32, 1<<32 + 1, math.MaxInt}
}

func TestPagesThatAreNone(t *testing.T) {
	for _, more := range []int{0, 1, 7} {
		d := newDisk(t, 12, more)
		p := newPool(t, d, 8)
		wantGet(t, "the last one", p, 11, had(11))
		wantGet(t, "the first one", p, 0, had(0))
		d.Fail(0)
		for _, n := range wrongPages(12) {
			wantNoGet(t, "none", p, n, api.ErrArg)
			wantErr(t, "Pin", p.Pin(n), api.ErrArg)
			wantErr(t, "Put", p.Put(n, all(1)), api.ErrArg)
			wantErr(t, "Put of too little", p.Put(n, nil), api.ErrArg)
			wantErr(t, "Drop", p.Drop(n), api.ErrArg)
			wantErr(t, "Unpin", p.Unpin(n), api.ErrNone)
		}
		wantFrames(t, "wrong pages", p, is(11, "u"), is(0, "u"))
		wantFault(t, "wrong pages", d, 0)
		wantWritten(t, "wrong pages", d)
	}
}

func TestBytesOfAnotherLength(t *testing.T) {
	d, p := full(t)
	pin(t, p, 0, 1, 2, 3, 4, 5, 6, 7)
	was := p.Frames()
	d.Fail(0)
	for _, n := range []int{0, 7, 8, 23} {
		for _, long := range []int{0, 1, 512, size - 1, size + 1, 2 * size} {
			wantErr(t, long, p.Put(n, plain(1, long)), api.ErrArg)
		}
		wantErr(t, "nil", p.Put(n, nil), api.ErrArg)
	}
	wantFrames(t, "bytes of another length", p, was...)
	wantFault(t, "bytes of another length", d, 0)
	wantWritten(t, "bytes of another length", d)
	wantGet(t, "bytes of another length", p, 0, had(0))
}

// All arguments are right, and there is no room: that is another error.
func TestWrongArgumentsComeAheadOfRoom(t *testing.T) {
	_, p := full(t)
	pin(t, p, 0, 1, 2, 3, 4, 5, 6, 7)
	wantErr(t, "Put", p.Put(8, all(1)), api.ErrFull)
	wantErr(t, "Put of no page", p.Put(24, all(1)), api.ErrArg)
	wantErr(t, "Put of too much", p.Put(8, plain(1, size+1)), api.ErrArg)
	wantErr(t, "Pin", p.Pin(8), api.ErrFull)
	wantErr(t, "Pin of no page", p.Pin(-1), api.ErrArg)
	wantNoGet(t, "no page", p, 24, api.ErrArg)
}

func TestGet(t *testing.T) {
	d := newDisk(t, 4, 0)
	p := newPool(t, d, 8)
	d.Fail(8)
	wantGet(t, "from the disk", p, 2, had(2))
	wantFault(t, "eight sectors are read", d, 0)
	wantFrames(t, "from the disk", p, is(2, "u"))
	d.Fail(0)
	wantGet(t, "from its frame", p, 2, had(2))
	wantFault(t, "no sector is read", d, 0)
	wantFrames(t, "from its frame", p, is(2, "u"))
	d.Write(17, plain(5, 512))
	wantGet(t, "the frame's, whatever the disk has", p, 2, had(2))
	wantErr(t, "Drop", p.Drop(2), api.OK)
	wantGet(t, "the cache's sectors too", p, 2, slices.Concat(had(2)[:512], plain(5, 512), had(2)[1024:]))
}

func TestPageNoughtIsNotInAnEmptyFrame(t *testing.T) {
	p := newPool(t, newDisk(t, 4, 0), 8)
	wantErr(t, "Unpin", p.Unpin(0), api.ErrNone)
	wantErr(t, "Drop", p.Drop(0), api.OK)
	wantFrames(t, "nothing yet", p)
	wantGet(t, "page 0", p, 0, had(0))
	wantGet(t, "page 1", p, 1, had(1))
	wantErr(t, "Evict", p.Evict(0), api.OK)
	put(t, p, 0, all(3))
	wantFrames(t, "again", p, is(0, "du"), is(1, "u"))
	wantGet(t, "again", p, 0, all(3))
}

func TestPut(t *testing.T) {
	d := newDisk(t, 4, 0)
	p := newPool(t, d, 8)
	d.Fail(0)
	put(t, p, 3, plain(1, size))
	wantFrames(t, "an empty frame", p, is(3, "du"))
	wantGet(t, "an empty frame", p, 3, plain(1, size))
	put(t, p, 3, plain(2, size))
	wantFrames(t, "its frame", p, is(3, "du"))
	wantGet(t, "its frame", p, 3, plain(2, size))
	wantFault(t, "Put reads and writes nothing", d, 0)
	wantDisk(t, "it is not saved yet", d, 3, had(3))
	wantGet(t, "another page", p, 1, had(1))
	put(t, p, 1, plain(3, size))
	wantFrames(t, "a frame that was clean", p, is(3, "du"), is(1, "du"))
	wantGet(t, "a frame that was clean", p, 1, plain(3, size))
}

func TestPutLeavesThePins(t *testing.T) {
	p := newPool(t, newDisk(t, 4, 0), 8)
	pin(t, p, 2, 2, 1)
	put(t, p, 2, all(1))
	wantFrames(t, "Put", p, is(2, "dupp"), is(1, "up"))
	wantErr(t, "Evict", p.Evict(0), api.ErrNone)
}

// What is the same as ahead is dirty too.
func TestPutOfTheSame(t *testing.T) {
	d := newDisk(t, 4, 0)
	p := newPool(t, d, 8)
	wantGet(t, "ahead", p, 1, had(1))
	put(t, p, 1, had(1))
	wantFrames(t, "the same bytes", p, is(1, "du"))
	wantErr(t, "Clean", p.Clean(), api.OK)
	wantWritten(t, "the same bytes", d, 1)
}

func TestPin(t *testing.T) {
	d := newDisk(t, 4, 0)
	p := newPool(t, d, 8)
	d.Fail(8)
	pin(t, p, 2)
	wantFault(t, "it is loaded", d, 0)
	wantFrames(t, "once", p, is(2, "up"))
	d.Fail(0)
	pin(t, p, 2)
	wantFrames(t, "twice", p, is(2, "upp"))
	put(t, p, 3, all(9))
	pin(t, p, 3)
	wantFault(t, "no sector is read", d, 0)
	wantFrames(t, "a dirty one", p, is(2, "upp"), is(3, "dup"))
	wantGet(t, "a pinned one", p, 2, had(2))
	wantGet(t, "a pinned one", p, 3, all(9))
}

func TestUnpin(t *testing.T) {
	d := newDisk(t, 4, 0)
	p := newPool(t, d, 8)
	wantErr(t, "not in a frame", p.Unpin(1), api.ErrNone)
	wantFrames(t, "not in a frame", p)
	wantGet(t, "in a frame", p, 1, had(1))
	wantErr(t, "in a frame", p.Unpin(1), api.ErrNone)
	pin(t, p, 1, 1, 2)
	d.Fail(0)
	unpin(t, p, 1)
	wantFrames(t, "once", p, is(1, "up"), is(2, "up"))
	wantErr(t, "it is pinned yet", p.Evict(0), api.ErrNone)
	unpin(t, p, 1)
	wantErr(t, "once too often", p.Unpin(1), api.ErrNone)
	wantFrames(t, "twice", p, is(1, "u"), is(2, "up"))
	wantFault(t, "no operation", d, 0)
	wantErr(t, "it is not pinned any more", p.Evict(0), api.OK)
}

// Get, Pin and Put use a frame; Unpin, Clean and what answers an error do not.
func TestWhatUsesAFrame(t *testing.T) {
	_, p := full(t)
	pin(t, p, 1)
	wantGet(t, "round once", p, 8, had(8))
	unused := []api.Frame{is(8, "u"), is(1, "up"), is(2, ""), is(3, ""), is(4, ""), is(5, ""), is(6, ""), is(7, "")}
	wantFrames(t, "round once", p, unused...)
	unpin(t, p, 1)
	wantGet(t, "Get", p, 2, had(2))
	pin(t, p, 3, 5)
	put(t, p, 4, all(4))
	p.frames[5].Used = false
	unpin(t, p, 5)
	wantFrames(t, "used", p, is(8, "u"), is(1, "u"), is(2, "u"), is(3, "up"), is(4, "du"), is(5, ""), is(6, ""), is(7, ""))
	wantErr(t, "Unpin", p.Unpin(6), api.ErrNone)
	wantErr(t, "Put", p.Put(7, nil), api.ErrArg)
	wantErr(t, "Clean", p.Clean(), api.OK)
	wantFrames(t, "Clean", p, is(8, "u"), is(1, "u"), is(2, "u"), is(3, "up"), is(4, "u"), is(5, ""), is(6, ""), is(7, ""))
}

// To make room.

func TestLeastEmptyFrame(t *testing.T) {
	d, p := full(t)
	wantErr(t, "Evict", p.Evict(5), api.OK)
	wantErr(t, "Drop", p.Drop(2), api.OK)
	wantErr(t, "Evict", p.Evict(7), api.OK)
	d.Fail(8)
	wantGet(t, "the least one", p, 10, had(10))
	wantFault(t, "it is loaded alone", d, 0)
	put(t, p, 11, all(11))
	pin(t, p, 12)
	wantFrames(t, "three more", p, is(0, "u"), is(1, "u"), is(10, "u"), is(3, "u"), is(4, "u"), is(11, "du"), is(6, "u"), is(12, "up"))
	// The hand was not needed: it is at the first one yet.
	wantGet(t, "by the hand", p, 13, had(13))
	wantFrames(t, "by the hand", p, is(13, "u"), is(1, ""), is(10, ""), is(3, ""), is(4, ""), is(11, "d"), is(6, ""), is(12, "up"))
}

func TestHand(t *testing.T) {
	d, p := full(t)
	// All are used: the hand goes round once, and takes the first one.
	wantGet(t, "8", p, 8, had(8))
	wantFrames(t, "8", p, is(8, "u"), is(1, ""), is(2, ""), is(3, ""), is(4, ""), is(5, ""), is(6, ""), is(7, ""))
	// It stands behind the one that went.
	wantGet(t, "3 is used", p, 3, had(3))
	wantGet(t, "9", p, 9, had(9))
	wantGet(t, "10", p, 10, had(10))
	wantFrames(t, "10", p, is(8, "u"), is(9, "u"), is(10, "u"), is(3, "u"), is(4, ""), is(5, ""), is(6, ""), is(7, ""))
	// 3 is passed, and used no more; 4 is pinned, and used yet.
	pin(t, p, 4)
	wantGet(t, "11", p, 11, had(11))
	wantFrames(t, "11", p, is(8, "u"), is(9, "u"), is(10, "u"), is(3, ""), is(4, "up"), is(11, "u"), is(6, ""), is(7, ""))
	put(t, p, 6, all(6))
	wantWritten(t, "all that went were clean", d)
	// 6 is passed, dirty as it is; 7 goes, and the hand is at the first one again.
	wantGet(t, "12", p, 12, had(12))
	wantFrames(t, "12", p, is(8, "u"), is(9, "u"), is(10, "u"), is(3, ""), is(4, "up"), is(11, "u"), is(6, "d"), is(12, "u"))
	put(t, p, 13, all(13))
	wantFrames(t, "13", p, is(8, ""), is(9, ""), is(10, ""), is(13, "du"), is(4, "up"), is(11, "u"), is(6, "d"), is(12, "u"))
	// 4 is pinned, 11 is used, 6 goes, dirty.
	wantWritten(t, "nothing went dirty yet", d)
	pin(t, p, 14)
	wantFrames(t, "14", p, is(8, ""), is(9, ""), is(10, ""), is(13, "du"), is(4, "up"), is(11, ""), is(14, "up"), is(12, "u"))
	wantWritten(t, "6 went dirty", d, 6)
	wantDisk(t, "6 went dirty", d, 6, all(6))
}

// allPinned is a full pool whose pages, told frame by frame, are all pinned; the hand is at start.
func allPinned(t *testing.T, start int) (*sector.Disk, *Pool, []int) {
	t.Helper()
	d, p := full(t)
	pages := []int{0, 1, 2, 3, 4, 5, 6, 7}
	// The first one that goes brings the hand round once, and each one further by one frame.
	for i := range start {
		wantGet(t, "start", p, 8+i, had(8+i))
		pages[i] = 8 + i
	}
	pin(t, p, pages...)
	return d, p, pages
}

// Whatever the hand's place is, it comes round to the one frame that may go, used or not.
func TestOneFrameThatMayGo(t *testing.T) {
	for start := range 8 {
		for free := range 8 {
			for _, used := range []bool{true, false} {
				d, p, pages := allPinned(t, start)
				unpin(t, p, pages[free])
				if used {
					wantGet(t, "used", p, pages[free], had(pages[free]))
				} else {
					p.frames[free].Used = false
				}
				want := p.Frames()
				d.Fail(8)
				wantGet(t, "the one", p, 20, had(20))
				wantFault(t, "it is loaded alone", d, 0)
				want[free] = is(20, "u")
				wantFrames(t, free, p, want...)
				// The next one that goes is behind it.
				unpin(t, p, pages[(free+1)%8], pages[(free+7)%8])
				p.frames[(free+1)%8].Used, p.frames[(free+7)%8].Used = false, false
				wantGet(t, "the next one", p, 21, had(21))
				if got := p.Frames()[(free+1)%8]; got != is(21, "u") {
					t.Errorf("start %d, free %d: behind it is %v", start, free, got)
				}
			}
		}
	}
}

func TestAllPinned(t *testing.T) {
	for start := range 8 {
		d, p, pages := allPinned(t, start)
		put(t, p, pages[2], all(2))
		p.frames[4].Used = false
		want := p.Frames()
		d.Fail(0)
		for _, n := range []int{20, 23} {
			wantNoGet(t, start, p, n, api.ErrFull)
			wantErr(t, start, p.Put(n, all(1)), api.ErrFull)
			wantErr(t, start, p.Pin(n), api.ErrFull)
			wantErr(t, start, p.Unpin(n), api.ErrNone)
		}
		wantFrames(t, "all are as they were", p, want...)
		wantGet(t, "one that is there", p, pages[3], had(pages[3]))
		pin(t, p, pages[3])
		unpin(t, p, pages[3])
		put(t, p, pages[2], all(3))
		wantFault(t, "no operation", d, 0)
		// The hand is where it was: of two that may go the one that it comes to first goes.
		place := (start + 7) % 8
		unpin(t, p, pages[start], pages[place])
		p.frames[start].Used, p.frames[place].Used = false, false
		wantGet(t, start, p, 20, had(20))
		if got := p.Frames()[start]; got != is(20, "u") {
			t.Errorf("start %d: %v", start, got)
		}
	}
}

func TestPinnedMoreThanOnce(t *testing.T) {
	_, p := full(t)
	for n := range 8 {
		pin(t, p, slices.Repeat([]int{n}, n+1)...)
	}
	for n := range 8 {
		for range n + 1 {
			wantNoGet(t, n, p, 20, api.ErrFull)
			unpin(t, p, n)
		}
		pin(t, p, 8+n)
		if got := p.Frames()[n]; got != is(8+n, "up") {
			t.Errorf("frame %d has %v", n, got)
		}
		wantErr(t, "what went is pinned no more", p.Unpin(n), api.ErrNone)
	}
}

// With more frames the hand goes as far.
func TestHandOfManyFrames(t *testing.T) {
	for _, frames := range []int{9, 64, 255, 256} {
		d := newDisk(t, frames+3, 0)
		p := newPool(t, d, frames)
		for n := range frames {
			put(t, p, n, plain(uint64(n), size))
		}
		for n := range frames - 1 {
			pin(t, p, n)
		}
		wantFrameOf(t, p, frames-1, frames)
		wantWritten(t, frames, d, frames-1)
		wantDisk(t, frames, d, frames-1, plain(uint64(frames-1), size))
		// The hand is at the first one: that is passed, the last one too, and it goes.
		unpin(t, p, 0)
		wantFrameOf(t, p, 0, frames+1)
		wantWritten(t, frames, d, frames-1, 0)
		wantDisk(t, frames, d, 0, plain(0, size))
		if got := p.Frames()[frames-1]; got != is(frames, "") {
			t.Errorf("%d frames: the last one has %v", frames, got)
		}
		// All up to the last one are pinned, and that is used no more.
		wantFrameOf(t, p, frames-1, frames+2)
		if got := p.Frames()[0]; got != is(frames+1, "u") {
			t.Errorf("%d frames: the first one has %v", frames, got)
		}
	}
}

// wantFrameOf gets page n, for which that frame's page goes.
func wantFrameOf(t *testing.T, p *Pool, frame, n int) {
	t.Helper()
	wantGet(t, frame, p, n, had(n))
	if got := p.Frames()[frame]; got != is(n, "u") {
		t.Errorf("frame %d has %v, want page %d", frame, got, n)
	}
}

func TestDirtyOneIsSavedAheadOfTheLoad(t *testing.T) {
	d, p := full(t)
	put(t, p, 0, all(1))
	d.Fail(16)
	wantGet(t, "sixteen operations", p, 8, had(8))
	wantFault(t, "sixteen operations", d, 0)
	wantWritten(t, "page 0", d, 0)
	wantDisk(t, "page 0", d, 0, all(1))
	put(t, p, 1, all(2))
	for _, n := range []int{2, 3, 4, 5, 6, 7} {
		wantGet(t, "used", p, n, had(n))
	}
	wantGet(t, "clean ones and dirty ones are alike to the hand", p, 9, had(9))
	wantErr(t, "Flush", p.Flush(), api.OK)
	d.Fail(8)
	wantGet(t, "a clean one", p, 10, had(10))
	wantFault(t, "eight operations", d, 0)
}

// makers are the calls that may make room, with page n that is in no frame.
func makers() map[string]func(p *Pool, n int) api.Errno {
	return map[string]func(p *Pool, n int) api.Errno{
		"Get": func(p *Pool, n int) api.Errno { _, err := p.Get(n); return err },
		"Pin": (*Pool).Pin,
		"Put": func(p *Pool, n int) api.Errno { return p.Put(n, plain(uint64(n), size)) },
	}
}

// ofMaker is what a frame has behind such a call.
func ofMaker(name string, n int) (api.Frame, []byte) {
	switch name {
	case "Pin":
		return is(n, "up"), had(n)
	case "Put":
		return is(n, "du"), plain(uint64(n), size)
	}
	return is(n, "u"), had(n)
}

// The frame 0 is pinned: the hand passes it twice, all others once, and comes to the frame 1, whose page 1 is dirty.
func roomIsTight(t *testing.T) (*sector.Disk, *Pool, []byte) {
	t.Helper()
	d, p := full(t)
	pin(t, p, 0)
	b := plain(50, size)
	put(t, p, 1, b)
	put(t, p, 2, all(2))
	return d, p, b
}

func TestFaultInTheSaveThatMakesRoom(t *testing.T) {
	for name, do := range makers() {
		for at := range 8 {
			d, p, b := roomIsTight(t)
			d.Fail(at)
			wantErr(t, name, do(p, 8), api.ErrIO)
			wantFrames(t, "it stays, dirty", p, is(0, "up"), is(1, "d"), is(2, "d"), is(3, ""), is(4, ""), is(5, ""), is(6, ""), is(7, ""))
			wantDisk(t, "the sectors ahead", d, 1, append(slices.Clone(b[:at*512]), had(1)[at*512:]...))
			if got := len(d.Cached()); got != at {
				t.Errorf("%s, sector %d: %d sectors are written", name, at, got)
			}
			wantErr(t, name, p.Unpin(8), api.ErrNone)
			// The hand stays at it: it goes now, and the frame ahead of it is not passed once more.
			unpin(t, p, 0)
			wantErr(t, name, do(p, 9), api.OK)
			f, bytes := ofMaker(name, 9)
			wantFrames(t, "again", p, is(0, "u"), f, is(2, "d"), is(3, ""), is(4, ""), is(5, ""), is(6, ""), is(7, ""))
			wantDisk(t, "again", d, 1, b)
			wantGet(t, name, p, 9, bytes)
			wantGet(t, name, p, 0, had(0))
			wantDisk(t, "the hand is behind it", d, 2, had(2))
			wantErr(t, name, do(p, 10), api.OK)
			wantDisk(t, "the next one went", d, 2, all(2))
		}
	}
}

func TestFaultInTheSaveIsNotLost(t *testing.T) {
	d, p, b := roomIsTight(t)
	d.Fail(3)
	wantNoGet(t, "fault", p, 8, api.ErrIO)
	wantGet(t, "it is there yet", p, 1, b)
	wantFrames(t, "it is used again", p, is(0, "up"), is(1, "du"), is(2, "d"), is(3, ""), is(4, ""), is(5, ""), is(6, ""), is(7, ""))
	// Used again it is passed now, and the next one goes.
	wantGet(t, "no fault", p, 8, had(8))
	wantFrames(t, "no fault", p, is(0, "up"), is(1, "d"), is(8, "u"), is(3, ""), is(4, ""), is(5, ""), is(6, ""), is(7, ""))
	wantDisk(t, "the next one", d, 2, all(2))
	wantGet(t, "it is there yet", p, 1, b)
}

func TestFaultInTheLoadBehindASave(t *testing.T) {
	for name, do := range makers() {
		if name == "Put" {
			continue // it loads nothing
		}
		for at := range 8 {
			d, p, b := roomIsTight(t)
			d.Fail(8 + at)
			wantErr(t, name, do(p, 8), api.ErrIO)
			wantFrames(t, "it is empty", p, is(0, "up"), none(), is(2, "d"), is(3, ""), is(4, ""), is(5, ""), is(6, ""), is(7, ""))
			wantWritten(t, "it was saved", d, 1)
			wantDisk(t, "it was saved", d, 1, b)
			wantErr(t, name, p.Unpin(8), api.ErrNone)
			// The empty one is taken, the hand is behind it.
			wantErr(t, name, do(p, 9), api.OK)
			f, _ := ofMaker(name, 9)
			wantFrames(t, "the empty one", p, is(0, "up"), f, is(2, "d"), is(3, ""), is(4, ""), is(5, ""), is(6, ""), is(7, ""))
			wantWritten(t, "nothing went", d, 1)
			wantErr(t, name, do(p, 10), api.OK)
			g, _ := ofMaker(name, 10)
			wantFrames(t, "the one behind it", p, is(0, "up"), f, g, is(3, ""), is(4, ""), is(5, ""), is(6, ""), is(7, ""))
			wantWritten(t, "it went dirty", d, 1, 2)
		}
	}
}

func TestFaultInTheLoadOfACleanOnesRoom(t *testing.T) {
	for name, do := range makers() {
		if name == "Put" {
			continue
		}
		for at := range 8 {
			d, p := full(t)
			d.Fail(at)
			wantErr(t, name, do(p, 8), api.ErrIO)
			wantFrames(t, "it is empty", p, none(), is(1, ""), is(2, ""), is(3, ""), is(4, ""), is(5, ""), is(6, ""), is(7, ""))
			wantWritten(t, "nothing is saved", d)
			wantGet(t, "what went is loaded again", p, 0, had(0))
			wantErr(t, name, do(p, 8), api.OK)
			f, _ := ofMaker(name, 8)
			wantFrames(t, "the hand is behind it", p, is(0, "u"), f, is(2, ""), is(3, ""), is(4, ""), is(5, ""), is(6, ""), is(7, ""))
		}
	}
}

func TestFaultInTheLoadToAnEmptyFrame(t *testing.T) {
	for name, do := range makers() {
		if name == "Put" {
			continue
		}
		for at := range 8 {
			d := newDisk(t, 24, 0)
			p := newPool(t, d, 8)
			wantGet(t, "ahead", p, 5, had(5))
			d.Fail(at)
			wantErr(t, name, do(p, 8), api.ErrIO)
			wantFrames(t, "it stays empty", p, is(5, "u"))
			wantErr(t, name, do(p, 9), api.OK)
			f, b := ofMaker(name, 9)
			wantFrames(t, "the same one", p, is(5, "u"), f)
			wantGet(t, name, p, 9, b)
		}
	}
}

func TestFaultBehindTheRoomWaitsOn(t *testing.T) {
	for name, do := range makers() {
		d, p, b := roomIsTight(t)
		operations := 16
		if name == "Put" {
			operations = 8
		}
		d.Fail(operations)
		wantErr(t, name, do(p, 8), api.OK)
		wantFault(t, name, d, 0)
		wantDisk(t, name, d, 1, b)
	}
}

// P7.3

func TestEvict(t *testing.T) {
	d, p := full(t)
	put(t, p, 3, all(3))
	pin(t, p, 4)
	put(t, p, 5, all(5))
	pin(t, p, 5)
	wantErr(t, "Drop", p.Drop(6), api.OK)
	was := p.Frames()
	d.Fail(0)
	for _, frame := range []int{math.MinInt, -8, -1, 8, 9, 255, 256, 1 << 32, math.MaxInt} {
		wantErr(t, frame, p.Evict(frame), api.ErrArg)
	}
	for _, frame := range []int{4, 5, 6} {
		wantErr(t, frame, p.Evict(frame), api.ErrNone)
	}
	wantFrames(t, "nothing is done", p, was...)
	wantErr(t, "a clean one, used or not", p.Evict(0), api.OK)
	wantFault(t, "no operation", d, 0)
	wantWritten(t, "no operation", d)
	wantErr(t, "an empty one", p.Evict(0), api.ErrNone)
	d.Fail(8)
	wantErr(t, "a dirty one", p.Evict(3), api.OK)
	wantFault(t, "eight sectors", d, 0)
	wantWritten(t, "a dirty one", d, 3)
	wantDisk(t, "a dirty one", d, 3, all(3))
	wantFrames(t, "two are empty more", p, none(), is(1, "u"), is(2, "u"), none(), is(4, "up"), is(5, "dup"), none(), is(7, "u"))
	wantErr(t, "the last one", p.Evict(7), api.OK)
	unpin(t, p, 5)
	wantErr(t, "it is pinned no more", p.Evict(5), api.OK)
	wantWritten(t, "it is pinned no more", d, 3, 5)
	wantGet(t, "the disk's", p, 5, all(5))
	wantGet(t, "the disk's", p, 3, all(3))
	wantFrames(t, "the empty ones are taken", p, is(5, "u"), is(1, "u"), is(2, "u"), is(3, "u"), is(4, "up"))
}

func TestFaultInEvict(t *testing.T) {
	for at := range 8 {
		d, p := full(t)
		put(t, p, 3, all(3))
		was := p.Frames()
		d.Fail(at)
		wantErr(t, at, p.Evict(3), api.ErrIO)
		wantFrames(t, "it stays", p, was...)
		wantDisk(t, at, d, 3, append(all(3)[:at*512], had(3)[at*512:]...))
		wantGet(t, "it stays", p, 3, all(3))
		wantErr(t, "again", p.Evict(3), api.OK)
		wantDisk(t, "again", d, 3, all(3))
	}
}

// Evict does not look at the hand, and does not move it.
func TestEvictLeavesTheHand(t *testing.T) {
	_, p := full(t)
	wantGet(t, "the hand is at 1", p, 8, had(8))
	for frame := range 8 {
		wantErr(t, frame, p.Evict(frame), api.OK)
	}
	wantFrames(t, "all are empty", p)
	for n := range 8 {
		wantGet(t, "full again", p, n, had(n))
	}
	wantGet(t, "the hand", p, 9, had(9))
	if got := p.Frames(); got[1] != is(9, "u") || got[0] != is(0, "") {
		t.Errorf("the hand is not where it was: %v", got)
	}
}

func TestDrop(t *testing.T) {
	d, p := full(t)
	put(t, p, 1, all(1))
	pin(t, p, 2, 2)
	put(t, p, 3, all(3))
	pin(t, p, 3)
	d.Fail(0)
	for _, n := range []int{0, 1, 2, 3} {
		wantErr(t, n, p.Drop(n), api.OK)
		wantErr(t, "it is pinned no more", p.Unpin(n), api.ErrNone)
	}
	was := p.Frames()
	wantFrames(t, "four are empty", p, none(), none(), none(), none(), is(4, "u"), is(5, "u"), is(6, "u"), is(7, "u"))
	for _, n := range []int{0, 1, 2, 3, 8, 23} {
		wantErr(t, "in no frame", p.Drop(n), api.OK)
	}
	wantFrames(t, "in no frame", p, was...)
	wantFault(t, "no operation", d, 0)
	wantWritten(t, "nothing is saved", d)
	wantGet(t, "what was put is gone", p, 1, had(1))
	wantGet(t, "what was put is gone", p, 3, had(3))
	pin(t, p, 2)
	wantFrames(t, "the least ones are taken", p, is(1, "u"), is(3, "u"), is(2, "up"), none(), is(4, "u"), is(5, "u"), is(6, "u"), is(7, "u"))
}

func TestDropLeavesTheHand(t *testing.T) {
	_, p := full(t)
	wantGet(t, "the hand is at 1", p, 8, had(8))
	wantErr(t, "Drop", p.Drop(1), api.OK)
	put(t, p, 9, all(9))
	wantGet(t, "2 to 7 are not used, 9 is", p, 10, had(10))
	wantFrames(t, "the hand", p, is(8, "u"), is(9, "d"), is(10, "u"), is(3, ""), is(4, ""), is(5, ""), is(6, ""), is(7, ""))
}

// dirtyOnes is a full pool whose frames 1, 2, 5 and 7 are dirty; their pages' numbers fall: the frames' order counts.
func dirtyOnes(t *testing.T) (*sector.Disk, *Pool) {
	t.Helper()
	d := newDisk(t, 24, 0)
	p := newPool(t, d, 8)
	for i := range 8 {
		n := 20 - i
		wantGet(t, "dirty ones", p, n, had(n))
		if i == 1 || i == 2 || i == 5 || i == 7 {
			put(t, p, n, all(byte(i)))
		}
	}
	pin(t, p, 18, 17)
	return d, p
}

func TestClean(t *testing.T) {
	d := newDisk(t, 4, 0)
	p := newPool(t, d, 8)
	d.Fail(0)
	wantErr(t, "empty frames", p.Clean(), api.OK)
	wantFault(t, "empty frames", d, 0)
	d, p = dirtyOnes(t)
	d.Fail(32)
	wantErr(t, "Clean", p.Clean(), api.OK)
	wantFault(t, "four pages", d, 0)
	wantWritten(t, "in the frames' order", d, 19, 18, 15, 13)
	wantFrames(t, "none is dirty", p, is(20, "u"), is(19, "u"), is(18, "up"), is(17, "up"), is(16, "u"), is(15, "u"), is(14, "u"), is(13, "u"))
	for _, i := range []int{1, 2, 5, 7} {
		wantDisk(t, i, d, 20-i, all(byte(i)))
		wantGet(t, i, p, 20-i, all(byte(i)))
	}
	if !bytes.Equal(d.Image()[19*size:20*size], had(19)) {
		t.Error("Clean flushes the disk")
	}
	d.Fail(0)
	wantErr(t, "once more", p.Clean(), api.OK)
	wantFault(t, "once more", d, 0)
	put(t, p, 18, all(9))
	wantErr(t, "one more", p.Clean(), api.OK)
	wantDisk(t, "one more", d, 18, all(9))
}

func TestFaultInClean(t *testing.T) {
	places := []int{1, 2, 5, 7}
	for at := range 32 {
		for name, do := range map[string]func(*Pool) api.Errno{"Clean": (*Pool).Clean, "Flush": (*Pool).Flush} {
			d, p := dirtyOnes(t)
			want := p.Frames()
			d.Fail(at)
			wantErr(t, name, do(p), api.ErrIO)
			for i, place := range places {
				want[place].Dirty = i >= at/8
				done := max(0, min(8, at-i*8)) * 512
				wantDisk(t, at, d, 20-place, append(all(byte(place))[:done], had(20 - place)[done:]...))
			}
			wantFrames(t, at, p, want...)
			if got := len(d.Cached()); got != at {
				t.Errorf("%s, operation %d: %d sectors are written", name, at, got)
			}
			wantErr(t, name, do(p), api.OK)
			for _, place := range places {
				want[place].Dirty = false
				wantDisk(t, "again", d, 20-place, all(byte(place)))
			}
			wantFrames(t, "again", p, want...)
		}
	}
}

func TestFlush(t *testing.T) {
	d, p := dirtyOnes(t)
	d.Fail(33)
	wantErr(t, "Flush", p.Flush(), api.OK)
	wantFault(t, "four pages, and the flush", d, 0)
	wantWritten(t, "the cache is empty", d)
	image := d.Image()
	for n := range 24 {
		want := had(n)
		if i := 20 - n; i == 1 || i == 2 || i == 5 || i == 7 {
			want = all(byte(i))
		}
		if !bytes.Equal(image[n*size:(n+1)*size], want) {
			t.Errorf("page %d of the image", n)
		}
	}
	wantFrames(t, "Flush", p, is(20, "u"), is(19, "u"), is(18, "up"), is(17, "up"), is(16, "u"), is(15, "u"), is(14, "u"), is(13, "u"))
	d.Fail(1)
	wantErr(t, "nothing is dirty", p.Flush(), api.OK)
	wantFault(t, "nothing is dirty", d, 0)
}

func TestFaultOfTheDisksFlush(t *testing.T) {
	d, p := dirtyOnes(t)
	was := d.Image()
	d.Fail(32)
	wantErr(t, "Flush", p.Flush(), api.ErrIO)
	wantWritten(t, "all are saved", d, 19, 18, 15, 13)
	wantFrames(t, "all are clean", p, is(20, "u"), is(19, "u"), is(18, "up"), is(17, "up"), is(16, "u"), is(15, "u"), is(14, "u"), is(13, "u"))
	if !bytes.Equal(d.Image(), was) {
		t.Error("something is flushed")
	}
	d.Fail(1)
	wantErr(t, "again", p.Flush(), api.OK)
	wantFault(t, "again", d, 0)
	wantWritten(t, "again", d)
	if !bytes.Equal(d.Image()[19*size:20*size], all(1)) {
		t.Error("page 19 is not flushed")
	}
}

// What others wrote to the disk is flushed too.
func TestFlushIsTheDisks(t *testing.T) {
	d := newDisk(t, 4, 0)
	p := newPool(t, d, 8)
	d.Write(5, plain(1, 512))
	wantErr(t, "Flush", p.Flush(), api.OK)
	if !bytes.Equal(d.Image()[5*512:6*512], plain(1, 512)) {
		t.Error("the disk is not flushed")
	}
}

func TestReset(t *testing.T) {
	d, p := dirtyOnes(t)
	d.Fail(0)
	wantErr(t, "Reset", p.Reset(), api.OK)
	wantErr(t, "once more", p.Reset(), api.OK)
	wantFault(t, "no operation", d, 0)
	wantWritten(t, "nothing is saved", d)
	wantFrames(t, "all are empty", p)
	if got := len(p.Frames()); got != 8 {
		t.Errorf("%d frames", got)
	}
	for _, n := range []int{17, 18} {
		wantErr(t, "it is pinned no more", p.Unpin(n), api.ErrNone)
	}
	for i := range 8 {
		wantGet(t, "the disk's", p, 20-i, had(20-i))
	}
	wantErr(t, "Clean", p.Clean(), api.OK)
	wantWritten(t, "nothing is dirty", d)
}

func TestResetBringsTheHandBack(t *testing.T) {
	for moved := 1; moved < 8; moved++ {
		_, p := full(t)
		for i := range moved {
			wantGet(t, moved, p, 8+i, had(8+i))
		}
		wantErr(t, moved, p.Reset(), api.OK)
		for n := range 8 {
			wantGet(t, moved, p, n, had(n))
		}
		wantGet(t, moved, p, 8, had(8))
		wantFrames(t, moved, p, is(8, "u"), is(1, ""), is(2, ""), is(3, ""), is(4, ""), is(5, ""), is(6, ""), is(7, ""))
	}
}

func TestFrames(t *testing.T) {
	d := newDisk(t, 300, 0)
	p := newPool(t, d, 256)
	for i := range 256 {
		n := (i*7 + 1) % 300
		put(t, p, n, all(byte(i)))
		pin(t, p, slices.Repeat([]int{n}, i%3)...)
	}
	d.Fail(0)
	l := p.Frames()
	wantFault(t, "no operation", d, 0)
	for i, f := range l {
		if want := is((i*7+1)%300, "du"+"pp"[:i%3]); f != want {
			t.Errorf("frame %d: %v, want %v", i, f, want)
		}
	}
	if len(l) != 256 {
		t.Errorf("%d frames", len(l))
	}
}

// P7.4

// Whatever the frames are, what Get tells is what was put last, or what the disk had.
func TestGetIsWhatWasPutLast(t *testing.T) {
	for _, frames := range []int{8, 9, 31, 256} {
		d := newDisk(t, 40, 5)
		p := newPool(t, d, frames)
		want := map[int][]byte{}
		for n := range 40 {
			want[n] = had(n)
		}
		script := plain(uint64(frames), 9000)
		for ; len(script) >= 3; script = script[3:] {
			n, x := int(script[1])%40, script[2]
			switch script[0] % 9 {
			case 0, 1, 2:
				b := plain(uint64(x), size)
				put(t, p, n, b)
				want[n] = b
			case 3, 4, 5:
				wantGet(t, frames, p, n, want[n])
			case 6:
				p.Evict(int(x) % frames)
			case 7:
				wantErr(t, "Clean", p.Clean(), api.OK)
			default:
				wantErr(t, "Flush", p.Flush(), api.OK)
			}
		}
		for n := range 40 {
			wantGet(t, frames, p, n, want[n])
		}
		wantErr(t, "Flush", p.Flush(), api.OK)
		again := newPool(t, d, 8)
		for n := range 40 {
			wantGet(t, "another pool", again, n, want[n])
			wantDisk(t, "the disk", d, n, want[n])
		}
	}
}

// What was saved, by whatever call, is not what an elder one of the page's bytes was.
func TestSavedBytesAreTheLatest(t *testing.T) {
	d, p := full(t)
	for i := range 30 {
		put(t, p, 3, all(byte(i)))
		switch i % 4 {
		case 0:
			wantErr(t, i, p.Clean(), api.OK)
		case 1:
			wantErr(t, i, p.Evict(slices.IndexFunc(p.Frames(), func(f api.Frame) bool { return f.Page == 3 && f.Is })), api.OK)
		case 2:
			for n := 8; n < 24; n++ {
				wantGet(t, i, p, n, had(n))
			}
		default:
			wantErr(t, i, p.Flush(), api.OK)
		}
		wantDisk(t, i, d, 3, all(byte(i)))
		wantGet(t, i, p, 3, all(byte(i)))
	}
}

func TestPinnedPageStays(t *testing.T) {
	d, p := full(t)
	pin(t, p, 2, 5)
	put(t, p, 5, all(5))
	for i := range 100 {
		n := 6 + i%18
		switch i % 3 {
		case 0:
			wantGet(t, i, p, n, had(n))
		case 1:
			put(t, p, n, had(n))
		default:
			p.Evict(i % 8)
		}
		if f := p.Frames(); f[2] != is(2, "up") || f[5].Page != 5 || f[5].Pins != 1 {
			t.Fatalf("step %d: %v", i, f)
		}
	}
	d.Fail(0)
	wantGet(t, "pinned", p, 2, had(2))
	wantGet(t, "pinned", p, 5, all(5))
	wantFault(t, "no operation", d, 0)
	wantDisk(t, "a pinned one is not saved to make room", d, 5, had(5))
	unpin(t, p, 2, 5)
	for n := 6; n < 24; n++ {
		wantGet(t, n, p, n, had(n))
	}
	wantDisk(t, "it is pinned no more", d, 5, all(5))
}

// Rule 3 of the rules that hold everywhere.

// spoil changes an answer, and all of its spare room.
func spoil(b []byte) {
	b = b[:cap(b)]
	for i := range b {
		b[i] ^= 0x55
	}
}

func TestWhatIsHandedInIsNotKept(t *testing.T) {
	d := newDisk(t, 4, 0)
	p := newPool(t, d, 8)
	for range 2 { // to an empty frame, to its own
		b := plain(1, size)
		put(t, p, 1, b)
		spoil(b)
		wantGet(t, "Put", p, 1, plain(1, size))
	}
	b := plain(2, size)
	put(t, p, 1, b)
	put(t, p, 2, b)
	spoil(b)
	wantErr(t, "Flush", p.Flush(), api.OK)
	wantDisk(t, "Flush", d, 1, plain(2, size))
	wantDisk(t, "Flush", d, 2, plain(2, size))
}

func TestWhatIsHandedInIsLeftAsItIs(t *testing.T) {
	whole := plain(3, 3*size)
	d := newDisk(t, 12, 0)
	p := newPool(t, d, 8)
	put(t, p, 1, whole[size:2*size])
	wantGet(t, "its spare room is not read", p, 1, plain(3, 3*size)[size:2*size])
	put(t, p, 1, all(1))
	put(t, p, 2, whole[:size])
	b, _ := p.Get(2)
	spoil(b)
	for n := range 12 {
		put(t, p, n, all(7))
	}
	wantErr(t, "Flush", p.Flush(), api.OK)
	if !bytes.Equal(whole, plain(3, 3*size)) {
		t.Error("what was handed in, or what stands behind it, is changed")
	}
}

func TestBytesAreNewMemory(t *testing.T) {
	d := newDisk(t, 12, 0)
	p := newPool(t, d, 8)
	first, _ := p.Get(1)
	second, _ := p.Get(1)
	spoil(first)
	if !bytes.Equal(second, had(1)) {
		t.Error("two answers share memory")
	}
	wantGet(t, "what was loaded is spoilt", p, 1, had(1))
	put(t, p, 2, all(2))
	third, _ := p.Get(2)
	spoil(third)
	wantGet(t, "what was put is spoilt", p, 2, all(2))
	wantErr(t, "Flush", p.Flush(), api.OK)
	wantDisk(t, "what was put is spoilt", d, 2, all(2))
	kept, _ := p.Get(2)
	put(t, p, 2, all(3))
	for n := 3; n < 12; n++ {
		put(t, p, n, all(4))
	}
	wantErr(t, "Reset", p.Reset(), api.OK)
	wantGet(t, "another page", p, 5, had(5))
	if !bytes.Equal(kept, all(2)) || !bytes.Equal(second, had(1)) {
		t.Error("what Get answered is changed later")
	}
}

func TestFramesAreNewMemory(t *testing.T) {
	_, p := full(t)
	pin(t, p, 3)
	put(t, p, 4, all(4))
	l, again := p.Frames(), p.Frames()
	clear(l[:cap(l)])
	if again[3] != is(3, "up") || again[4] != is(4, "du") {
		t.Error("two answers share memory")
	}
	wantFrames(t, "cleared", p, again...)
	wantErr(t, "Reset", p.Reset(), api.OK)
	if again[3] != is(3, "up") || !again[0].Is {
		t.Error("what Frames answered is changed later")
	}
}

// A pool held against one that is written apart: api's frames, a map of bytes, and a twin of the disk.

type plainPool struct {
	disk   *sector.Disk
	frames []api.Frame
	bytes  map[int][]byte
	hand   int
}

func (q *plainPool) place(n int) int {
	return slices.IndexFunc(q.frames, func(f api.Frame) bool { return f.Is && f.Page == n })
}

func (q *plainPool) save(i int) api.Errno {
	if n := q.frames[i].Page; q.frames[i].Dirty {
		for j := range 8 {
			if err := q.disk.Write(n*8+j, q.bytes[n][j*512:(j+1)*512]); err != api.OK {
				return err
			}
		}
	}
	q.frames[i].Dirty = false
	return api.OK
}

func (q *plainPool) empty(i int) {
	delete(q.bytes, q.frames[i].Page)
	q.frames[i] = api.Frame{}
}

func (q *plainPool) room() (int, api.Errno) {
	if i := slices.Index(q.frames, api.Frame{}); i >= 0 {
		return i, api.OK
	}
	for left := 2 * len(q.frames); left > 0; left-- {
		i := q.hand
		if q.frames[i].Pins == 0 && !q.frames[i].Used {
			if err := q.save(i); err != api.OK {
				return 0, err
			}
			q.empty(i)
			q.hand = (i + 1) % len(q.frames)
			return i, api.OK
		}
		q.frames[i].Used = q.frames[i].Used && q.frames[i].Pins > 0
		q.hand = (i + 1) % len(q.frames)
	}
	return 0, api.ErrFull
}

// lay makes page n stand in a frame, used: with b, or with what the disk has.
func (q *plainPool) lay(n int, b []byte) (int, api.Errno) {
	if n < 0 || n >= q.disk.Sectors()/8 {
		return 0, api.ErrArg
	}
	i := q.place(n)
	if i < 0 {
		var err api.Errno
		if i, err = q.room(); err != api.OK {
			return 0, err
		}
		var loaded []byte
		for j := 0; j < 8 && b == nil; j++ {
			row, err := q.disk.Read(n*8 + j)
			if err != api.OK {
				return 0, err
			}
			loaded = append(loaded, row...)
		}
		q.bytes[n] = loaded
	}
	f := &q.frames[i]
	f.Is, f.Page, f.Used = true, n, true
	if b != nil {
		f.Dirty, q.bytes[n] = true, b
	}
	return i, api.OK
}

func (q *plainPool) clean() api.Errno {
	for i := range q.frames {
		if err := q.save(i); err != api.OK {
			return err
		}
	}
	return api.OK
}

func (q *plainPool) evict(i int) api.Errno {
	if i < 0 || i >= len(q.frames) {
		return api.ErrArg
	}
	if q.frames[i].Pins > 0 || !q.frames[i].Is {
		return api.ErrNone
	}
	err := q.save(i)
	if err == api.OK {
		q.empty(i)
	}
	return err
}

// playOne does one call on both, and answers what it was and its error.
func playOne(t *testing.T, p *Pool, q *plainPool, op, arg, x int) (string, api.Errno) {
	t.Helper()
	n := arg%(q.disk.Sectors()/8+2) - 1
	about, got, want := "", api.OK, api.OK
	switch op {
	case 0, 1, 2, 3:
		about = "Put"
		b := plain(uint64(x), size-x%16/15)
		if want = api.ErrArg; len(b) == size {
			_, want = q.lay(n, b)
		}
		got = p.Put(n, b)
	case 4, 5, 6:
		about = "Get"
		var row []byte
		if _, want = q.lay(n, nil); want == api.OK {
			row = q.bytes[n]
		}
		var b []byte
		if b, got = p.Get(n); !bytes.Equal(b, row) {
			t.Fatalf("Get of %d: other bytes", n)
		}
	case 7, 8:
		about = "Pin"
		var i int
		if i, want = q.lay(n, nil); want == api.OK {
			q.frames[i].Pins++
		}
		got = p.Pin(n)
	case 9, 10:
		about = "Unpin"
		if i := q.place(n); i < 0 || q.frames[i].Pins == 0 {
			want = api.ErrNone
		} else {
			q.frames[i].Pins--
		}
		got = p.Unpin(n)
	case 11:
		about = "Evict"
		frame := x%(len(q.frames)+2) - 1
		want = q.evict(frame)
		got = p.Evict(frame)
	case 12:
		about = "Drop"
		if i := q.place(n); i >= 0 {
			q.empty(i)
		} else if n < 0 || n >= q.disk.Sectors()/8 {
			want = api.ErrArg
		}
		got = p.Drop(n)
	case 13:
		want = q.clean()
		if x%4 > 0 {
			about, got = "Clean", p.Clean()
			break
		}
		if want == api.OK {
			want = q.disk.Flush()
		}
		about, got = "Flush", p.Flush()
	case 14:
		about = "Fail"
		want, got = q.disk.Fail(x%24), p.disk.Fail(x%24)
	default:
		if x%8 == 0 {
			about = "Reset"
			q.hand = 0
			clear(q.bytes)
			clear(q.frames)
			got = p.Reset()
		}
	}
	wantErr(t, about, got, want)
	return about, got
}

// stays tells that the pages that were pinned, and are, stand where they stood.
func stays(t *testing.T, about string, was, now []api.Frame) {
	t.Helper()
	for i, f := range was {
		if f.Pins > 0 && now[i].Page != f.Page && about != "Drop" && about != "Reset" {
			t.Fatalf("%s: pinned page %d is not in frame %d any more", about, f.Page, i)
		}
	}
}

// play does what a script tells on both, and holds all that is to be seen together; it answers the errors.
func play(t *testing.T, frames, pages int, script []byte) []api.Errno {
	t.Helper()
	p := newPool(t, newDisk(t, pages, 3), frames)
	q := &plainPool{disk: newDisk(t, pages, 3), frames: make([]api.Frame, frames), bytes: map[int][]byte{}}
	var errs []api.Errno
	was := p.Frames()
	for ; len(script) >= 3; script = script[3:] {
		about, err := playOne(t, p, q, int(script[0])%16, int(script[1]), int(script[2]))
		errs = append(errs, err)
		now := p.Frames()
		stays(t, about, was, now)
		was = now
		if !slices.Equal(now, q.frames) {
			t.Fatalf("%s: frames\n%v, want\n%v", about, now, q.frames)
		}
		if !slices.Equal(p.disk.Cached(), q.disk.Cached()) {
			t.Fatalf("%s: sectors %v are written, want %v", about, p.disk.Cached(), q.disk.Cached())
		}
		if t.Failed() {
			t.FailNow()
		}
	}
	p.disk.Fail(-1)
	q.disk.Fail(-1)
	wantErr(t, "the end", p.Flush(), api.OK)
	q.clean()
	q.disk.Flush()
	if !bytes.Equal(p.disk.Image(), q.disk.Image()) {
		t.Fatal("another image")
	}
	return errs
}

func TestScripts(t *testing.T) {
	seen := map[api.Errno]int{}
	for i := range uint64(60) {
		frames := 8 + int(i%5)
		for _, err := range play(t, frames, frames*2+int(i%7), plain(300+i, 1500)) {
			seen[err]++
		}
	}
	for _, err := range []api.Errno{api.OK, api.ErrArg, api.ErrNone, api.ErrIO} {
		if seen[err] < 50 {
			t.Errorf("error %d is seen %d times", err, seen[err])
		}
	}
}

// Pins are left standing: most calls find no room.
func TestScriptsWithManyPins(t *testing.T) {
	full := 0
	for i := range uint64(40) {
		script := plain(400+i, 900)
		for j := 0; j < len(script); j += 3 {
			if script[j]%16 > 8 && script[j+2]%8 != 0 {
				script[j] = 7
			}
		}
		for _, err := range play(t, 8, 18, script) {
			if err == api.ErrFull {
				full++
			}
		}
	}
	if full < 100 {
		t.Errorf("ErrFull is seen %d times", full)
	}
}

func TestSameCallsSameAnswers(t *testing.T) {
	for i := range uint64(5) {
		script := plain(500+i, 600)
		if a, b := play(t, 8, 20, script), play(t, 8, 20, script); !slices.Equal(a, b) {
			t.Errorf("script %d: %v and %v", i, a, b)
		}
	}
}

func FuzzPool(f *testing.F) {
	f.Add(uint8(0), uint8(0), []byte{})
	f.Add(uint8(0), uint8(19), []byte{0, 1, 2, 4, 2, 2, 7, 3, 3, 9, 3, 3, 11, 0, 1, 12, 1, 1, 13, 0, 0, 14, 0, 5, 15, 0, 0})
	f.Add(uint8(3), uint8(24), plain(1, 300))
	f.Fuzz(func(t *testing.T, frames, pages uint8, script []byte) {
		play(t, 8+int(frames)%8, 1+int(pages)%40, script)
	})
}
