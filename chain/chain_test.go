package chain

import (
	"bytes"
	"encoding/binary"
	"encoding/hex"
	"fmt"
	"hash/crc32"
	"math"
	"slices"
	"testing"

	"tallyman/api"
	"tallyman/page"
	"tallyman/pool"
	"tallyman/sector"
)

const (
	size = api.PageSize
	full = 4074 // what a page has, as the chapter says it
)

// plain are bytes without a pattern, told by where they begin; the last one is no nought.
func plain(from uint64, n int) []byte {
	b := make([]byte, n)
	for i, w := 0, from*2+1; i < n; i++ {
		w = w*6364136223846793005 + 1442695040888963407
		b[i] = byte(w >> 56)
	}
	if n > 0 {
		b[n-1] |= 1
	}
	return b
}

// kinds are those that a chain may have.
func kinds() []int { return []int{2, 3, 7} }

func wrongKinds() []int {
	return []int{0, 1, 4, 5, 6, 8, 9, -1, -2, -3, -7, 256 + 2, 256 + 7, 1<<32 + 3, math.MaxInt, math.MinInt}
}

// lengths are how many bytes a chain may have, all edges among them.
func lengths() []int {
	return []int{0, 1, 2, 255, 256, 4073, 4074, 4075, 4080, 4096, 8147, 8148, 8149, 9000, 12221, 12222, 12223, 20369, 20370, 20371}
}

// wrongPages are numbers that no page of a chain has.
func wrongPages() []int {
	return []int{1, 0, -1, -2, -5, math.MinInt, math.MinInt + 2, math.MinInt32, 1 << 32, 1<<32 + 1, 1<<32 + 2, 1<<32 + 5, 1 << 40, math.MaxInt}
}

// noPools are those that nobody made.
func noPools() []*pool.Pool { return []*pool.Pool{nil, {}, new(pool.Pool)} }

// cell is what a page of a chain tells, whether it may be or not.
type cell struct {
	kind         byte
	number, next uint32
	length       uint16
	bytes        []byte // they may be more, or less, than length says
}

// laid is a cell's page as the chapters tell it, written apart from the program's own, by the library's words and sums.
func laid(c cell) []byte {
	b := append([]byte{0x54, 0x4d, 1, c.kind}, make([]byte, size-4)...)
	binary.LittleEndian.PutUint32(b[4:], c.number)
	binary.LittleEndian.PutUint32(b[16:], c.next)
	binary.LittleEndian.PutUint16(b[20:], c.length)
	copy(b[22:], c.bytes)
	return summed(b)
}

// summed answers b's bytes with the sum that fits, whatever the others are.
func summed(b []byte) []byte {
	b = slices.Clone(b)
	clear(b[12:16])
	binary.LittleEndian.PutUint32(b[12:], crc32.Checksum(b, crc32.MakeTable(crc32.Castagnoli)))
	return b
}

// cellsOf are a chain's pages, written apart from the program's own.
func cellsOf(kind int, pages []int, b []byte) []cell {
	var l []cell
	for i := range pages {
		c := cell{kind: byte(kind), number: uint32(i), bytes: b[i*full:]}
		if i+1 < len(pages) {
			c.next, c.bytes = uint32(pages[i+1]), c.bytes[:full]
		}
		c.length = uint16(len(c.bytes))
		l = append(l, c)
	}
	return l
}

// toldOf is the chain that Read tells of pages that get answers, written apart from the program's own.
func toldOf(get func(n int) ([]byte, api.Errno), kind, head, most int) ([]byte, []int, api.Errno) {
	var all []byte
	var pages []int
	for n := int64(head); ; {
		b, err := get(int(n))
		if err != api.OK {
			return nil, nil, err
		}
		c := cell{kind: byte(kind), number: uint32(len(pages)), next: binary.LittleEndian.Uint32(b[16:]), length: binary.LittleEndian.Uint16(b[20:])}
		if c.length > full {
			return nil, nil, api.ErrBad
		}
		c.bytes = b[22 : 22+c.length]
		short := c.length < full && c.next > 0 || c.length < 1 && c.number > 0
		if !bytes.Equal(laid(c), b) || short || c.next == 1 || len(pages)+1 > most {
			return nil, nil, api.ErrBad
		}
		all, pages = append(all, c.bytes...), append(pages, int(n))
		if c.next == 0 {
			return all, pages, api.OK
		}
		for _, had := range pages {
			if had == int(c.next) {
				return nil, nil, api.ErrBad
			}
		}
		n = int64(c.next)
	}
}

// newPool is a pool over a disk of noughts.
func newPool(t *testing.T, pages, frames int) (*sector.Disk, *pool.Pool) {
	t.Helper()
	d, err := sector.New(8 * pages)
	if err != api.OK {
		t.Fatalf("a disk of %d pages: error %d", pages, err)
	}
	p, err := pool.New(d, frames)
	if err != api.OK {
		t.Fatalf("a pool of %d frames: error %d", frames, err)
	}
	return d, p
}

func wantErr(t *testing.T, about any, err, want api.Errno) {
	t.Helper()
	if err != want {
		t.Errorf("%v: error %d, want %d", about, err, want)
	}
}

// wantPages holds what Pages answers against cellsOf.
func wantPages(t *testing.T, about any, kind int, pages []int, b []byte) {
	t.Helper()
	l, err := Pages(kind, pages, b)
	if err != api.OK || len(l) != len(pages) {
		t.Errorf("%v: Pages: error %d, %d pages, want %d", about, err, len(l), len(pages))
		return
	}
	for i, c := range cellsOf(kind, pages, b) {
		if !bytes.Equal(l[i], laid(c)) {
			t.Errorf("%v: Pages: page %d is another one", about, i)
		}
	}
}

func wantNoPages(t *testing.T, about any, kind int, pages []int, b []byte) {
	t.Helper()
	if l, err := Pages(kind, pages, b); err != api.ErrArg || len(l) != 0 {
		t.Errorf("%v: Pages of kind %d, %d pages, %d bytes: error %d, %d pages", about, kind, len(pages), len(b), err, len(l))
	}
}

func write(t *testing.T, p *pool.Pool, kind int, pages []int, b []byte) {
	t.Helper()
	wantErr(t, "Write", Write(p, kind, pages, b), api.OK)
}

func put(t *testing.T, p *pool.Pool, n int, b []byte) {
	t.Helper()
	wantErr(t, n, p.Put(n, b), api.OK)
}

func wantGet(t *testing.T, about any, p *pool.Pool, n int, want []byte) {
	t.Helper()
	if b, err := p.Get(n); err != api.OK || !bytes.Equal(b, want) {
		t.Errorf("%v: page %d: error %d, the same %v", about, n, err, bytes.Equal(b, want))
	}
}

func wantRead(t *testing.T, about any, p *pool.Pool, kind, head, most int, want []byte, pages []int) {
	t.Helper()
	b, l, err := Read(p, kind, head, most)
	if err != api.OK || !bytes.Equal(b, want) || !slices.Equal(l, pages) {
		t.Errorf("%v: Read of %d: error %d, %d bytes, the same %v, pages %v, want %v", about, head, err, len(b), bytes.Equal(b, want), l, pages)
	}
}

func wantNoRead(t *testing.T, about any, p *pool.Pool, kind, head, most int, want api.Errno) {
	t.Helper()
	if b, l, err := Read(p, kind, head, most); err != want || len(b) != 0 || len(l) != 0 {
		t.Errorf("%v: Read of %d, at most %d: error %d, want %d, %d bytes, pages %v", about, head, most, err, want, len(b), l)
	}
}

// wantFrames tells which pages the first frames have, all of them put; the others are empty.
func wantFrames(t *testing.T, about any, p *pool.Pool, pages ...int) {
	t.Helper()
	for i, f := range p.Frames() {
		want := api.Frame{}
		if i < len(pages) {
			want = api.Frame{Is: true, Page: pages[i], Dirty: true, Used: true}
		}
		if f != want {
			t.Errorf("%v: frame %d: %v, want %v", about, i, f, want)
		}
	}
}

// wantFault tells that no operation was done since the disk was to fail, and ends that.
func wantFault(t *testing.T, about any, d *sector.Disk) {
	t.Helper()
	if _, err := d.Read(0); err != api.ErrIO {
		t.Errorf("%v: an operation was done", about)
	}
}

// allPinned is a pool whose frames have these pages, put and pinned.
func allPinned(t *testing.T, pages int, pinned ...int) (*sector.Disk, *pool.Pool) {
	t.Helper()
	d, p := newPool(t, pages, len(pinned))
	for _, n := range pinned {
		put(t, p, n, plain(uint64(n), size))
		wantErr(t, n, p.Pin(n), api.OK)
	}
	return d, p
}

// listsOf are so many pages, in all kinds of orders, that a word holds.
func listsOf(n int) [][]int {
	var rising, falling, far, skips []int
	for i := range n {
		rising = append(rising, 2+i)
		falling = append(falling, 1<<32-1-i)
		far = append(far, 1<<16+i*70000)
		skips = append(skips, 2+(i*7+3)%31)
	}
	return [][]int{rising, falling, far, skips}
}

// skipping are so many pages of a disk of 64, neither rising nor falling.
func skipping(n, from int) []int {
	var l []int
	for i := range n {
		l = append(l, 2+(i*23+from)%61)
	}
	return l
}

// The chapter's examples.

func TestExamples(t *testing.T) {
	for _, x := range [][2]int{{0, 1}, {4074, 1}, {4075, 2}} {
		if n := Need(x[0]); n != x[1] {
			t.Errorf("Need of %d: %d", x[0], n)
		}
	}
	l, err := Pages(api.PageChain, []int{5, 3}, make([]byte, 4075))
	if err != api.OK || len(l) != 2 {
		t.Fatalf("Pages: error %d, %d pages", err, len(l))
	}
	p, err := page.Read(l[0])
	if got := hex.EncodeToString(p.Body[:6]); err != api.OK || got != "03000000ea0f" {
		t.Errorf("the first one's Body: error %d, %s", err, got)
	}
}

// P9.1: Need, Pages.

func TestLimits(t *testing.T) {
	if api.Link != full || api.PageChain != 2 || api.PageSpace != 3 || api.PageOver != 7 {
		t.Error("other limits or kinds than the document's")
	}
}

func TestNeed(t *testing.T) {
	for _, x := range [][2]int{
		{math.MinInt, 1}, {math.MinInt + 1, 1}, {math.MinInt32, 1}, {-4075, 1}, {-4074, 1}, {-2, 1}, {-1, 1},
		{0, 1}, {1, 1}, {2, 1}, {4073, 1}, {4074, 1}, {4075, 2}, {8148, 2}, {8149, 3}, {1 << 17, 33},
		{1<<31 - 1, 527120}, {4074 * 1 << 40, 1 << 40}, {4074*1<<40 + 1, 1<<40 + 1}, {math.MaxInt, 2263959753768969},
	} {
		if n := Need(x[0]); n != x[1] {
			t.Errorf("Need of %d: %d, want %d", x[0], n, x[1])
		}
	}
	for k := 1; k < 3000; k++ {
		whole := k * full
		if a, b, c := Need(whole-1), Need(whole), Need(whole+1); a != k || b != k || c != k+1 {
			t.Errorf("Need of %d pages' bytes: %d, %d, %d", k, a, b, c)
		}
	}
	// Byte by byte: a page more where the last one is full.
	for n, left, need := 0, full, 1; n < 30000; n, left = n+1, left-1 {
		if left < 0 {
			need, left = need+1, full-1
		}
		if got := Need(n); got != need {
			t.Errorf("Need of %d: %d, want %d", n, got, need)
		}
	}
}

func TestPages(t *testing.T) {
	for _, kind := range kinds() {
		for _, n := range lengths() {
			for i, pages := range listsOf(Need(n)) {
				about := fmt.Sprint(kind, " ", n, " ", i)
				wantPages(t, about, kind, pages, plain(uint64(n), n))
				wantPages(t, about, kind, pages, make([]byte, n))
			}
		}
	}
}

// Each page is one, as layer 5 reads it, and tells what the chapter says.
func TestPagesAreRead(t *testing.T) {
	b, pages := plain(1, 3*full+1), []int{9, 1<<32 - 1, 2, 70000}
	l, err := Pages(api.PageOver, pages, b)
	wantErr(t, "Pages", err, api.OK)
	for i, next := range []uint32{1<<32 - 1, 2, 70000, 0} {
		p, err := page.Read(l[i])
		if err != api.OK || p.Kind != api.PageOver || p.Number != uint32(i) {
			t.Fatalf("page %d: error %d, kind %d, number %d", i, err, p.Kind, p.Number)
		}
		want := binary.LittleEndian.AppendUint32(nil, next)
		part := b[i*full : min(len(b), (i+1)*full)]
		want = binary.LittleEndian.AppendUint16(want, uint16(len(part)))
		want = append(want, part...)
		if !bytes.Equal(p.Body, append(want, make([]byte, api.Room-len(want))...)) {
			t.Errorf("page %d: another body", i)
		}
	}
}

func TestPagesOfNoBytes(t *testing.T) {
	for _, kind := range kinds() {
		for _, b := range [][]byte{nil, {}, make([]byte, 0, 9), plain(1, 9)[:0]} {
			for _, n := range []int{2, 3, 4096, 1<<32 - 1} {
				l, err := Pages(kind, []int{n}, b)
				if err != api.OK || len(l) != 1 || !bytes.Equal(l[0], laid(cell{kind: byte(kind)})) {
					t.Errorf("kind %d, page %d: error %d, %d pages", kind, n, err, len(l))
				}
			}
			wantNoPages(t, "no page", kind, nil, b)
			wantNoPages(t, "no page", kind, []int{}, b)
			wantNoPages(t, "two pages", kind, []int{2, 3}, b)
		}
	}
}

func TestPagesOfAnotherKind(t *testing.T) {
	for _, kind := range wrongKinds() {
		for _, n := range lengths() {
			for _, pages := range listsOf(Need(n)) {
				wantNoPages(t, "another kind", kind, pages, plain(1, n))
			}
		}
	}
}

func TestPagesOfAnotherNumber(t *testing.T) {
	for _, n := range lengths() {
		for count := range 9 {
			if count == Need(n) {
				continue
			}
			for _, pages := range listsOf(count) {
				wantNoPages(t, "another number", api.PageChain, pages, plain(1, n))
			}
		}
		wantNoPages(t, "nil", api.PageSpace, nil, plain(1, n))
		wantNoPages(t, "a thousand", api.PageOver, listsOf(1000)[0], plain(1, n))
	}
	// What lies in the spare room is no page.
	wantNoPages(t, "spare room", api.PageChain, []int{2, 3}[:1], plain(1, full+1))
	wantPages(t, "spare room", api.PageChain, []int{2, 3}[:1], plain(1, full))
}

func TestPagesOfPagesThatMayNotBe(t *testing.T) {
	for count := 1; count < 6; count++ {
		b := plain(1, count*full)
		for at := range count {
			for _, list := range listsOf(count) {
				for _, n := range wrongPages() {
					pages := slices.Clone(list)
					pages[at] = n
					wantNoPages(t, n, api.PageChain, pages, b)
				}
			}
			for _, n := range []int{2, 3, 1<<31 - 1, 1 << 31, 1<<32 - 2, 1<<32 - 1} {
				pages := []int{100, 101, 102, 103, 104}[:count]
				pages[at] = n
				wantPages(t, n, api.PageChain, pages, b)
			}
		}
	}
}

func TestPagesOfAPageTwice(t *testing.T) {
	for count := 2; count < 7; count++ {
		b := plain(1, count*full-5)
		for _, list := range listsOf(count) {
			for i := range count {
				for j := range i {
					pages := slices.Clone(list)
					pages[i] = pages[j]
					wantNoPages(t, pages, api.PageSpace, pages, b)
				}
			}
			wantNoPages(t, "all the same", api.PageSpace, slices.Repeat(list[:1], count), b)
		}
	}
}

// Many pages take no longer than their number tells.
func TestPagesOfManyPages(t *testing.T) {
	const count = 6000
	b := plain(3, count*full-1)
	pages := make([]int, count)
	for i := range pages {
		pages[i] = 2 + i*4099%6007
	}
	wantPages(t, "many", api.PageOver, pages, b)
	pages[count-1] = pages[17]
	wantNoPages(t, "many, one twice", api.PageOver, pages, b)
	wantNoPages(t, "many, and no bytes", api.PageOver, listsOf(1 << 20)[0], nil)
}

// P9.2: Write.

func TestWrite(t *testing.T) {
	for _, kind := range kinds() {
		for _, n := range lengths() {
			d, p := newPool(t, 64, 8)
			d.Fail(0)
			pages, b := skipping(Need(n), n), plain(uint64(n), n)
			write(t, p, kind, pages, b)
			wantFrames(t, n, p, pages...)
			for i, c := range cellsOf(kind, pages, b) {
				wantGet(t, n, p, pages[i], laid(c))
			}
			wantFault(t, n, d)
		}
	}
}

// Pages that are put are saved when their frames are needed.
func TestWriteOverMorePagesThanFrames(t *testing.T) {
	for _, kind := range kinds() {
		d, p := newPool(t, 64, 8)
		image := make([]byte, 64*size)
		pages, b := skipping(50, 1), plain(5, 50*full-7)
		write(t, p, kind, pages, b)
		wantErr(t, "Flush", p.Flush(), api.OK)
		for i, c := range cellsOf(kind, pages, b) {
			copy(image[pages[i]*size:], laid(c))
		}
		if !bytes.Equal(d.Image(), image) {
			t.Errorf("kind %d: another image", kind)
		}
	}
}

// The other pages stay as they are, those of an elder chain too.
func TestWriteLeavesTheOtherPages(t *testing.T) {
	_, p := newPool(t, 24, 24)
	for n := range 24 {
		put(t, p, n, plain(uint64(n), size))
	}
	elder := cellsOf(2, []int{5, 9, 11}, plain(1, 9000))
	write(t, p, 2, []int{5, 9, 11}, plain(1, 9000))
	write(t, p, 3, []int{9, 20}, plain(2, 5000))
	for n := range 24 {
		want := plain(uint64(n), size)
		switch n {
		case 5:
			want = laid(elder[0])
		case 11:
			want = laid(elder[2])
		case 9:
			want = laid(cellsOf(3, []int{9, 20}, plain(2, 5000))[0])
		case 20:
			want = laid(cellsOf(3, []int{9, 20}, plain(2, 5000))[1])
		}
		wantGet(t, "the other pages", p, n, want)
	}
}

func TestNoPool(t *testing.T) {
	for _, p := range noPools() {
		for _, kind := range append(kinds(), 0, 1, 6, -1) {
			for _, pages := range [][]int{{5, 3}, {5}, nil, {5, 5}, {0, 1}, {-1, 1 << 32}} {
				wantErr(t, "no pool", Write(p, kind, pages, plain(1, 5000)), api.ErrNil)
				wantErr(t, "no pool", Write(p, kind, pages, nil), api.ErrNil)
			}
			for _, head := range []int{5, 2, 1, 0, -1, 1 << 32, math.MinInt} {
				for _, most := range []int{9, 0, -1} {
					wantNoRead(t, "no pool", p, kind, head, most, api.ErrNil)
				}
			}
		}
	}
}

// Pages' error comes ahead of any Put's, and nothing is put.
func TestWriteOfWrongArguments(t *testing.T) {
	b := plain(1, 2*full+1)
	try := func(t *testing.T, p *pool.Pool, was []api.Frame) {
		for _, kind := range wrongKinds() {
			wantErr(t, kind, Write(p, kind, []int{5, 3, 7}, b), api.ErrArg)
			wantErr(t, kind, Write(p, kind, []int{99, 3, 7}, b), api.ErrArg)
		}
		for _, kind := range kinds() {
			for _, pages := range [][]int{nil, {}, {5}, {5, 3}, {5, 3, 7, 9}, {5, 3, 5}, {5, 5, 3}, {3, 5, 5}, {5, 3, 7, 5}} {
				wantErr(t, pages, Write(p, kind, pages, b), api.ErrArg)
			}
			for at := range 3 {
				for _, n := range wrongPages() {
					pages := []int{5, 3, 7}
					pages[at] = n
					wantErr(t, pages, Write(p, kind, pages, b), api.ErrArg)
				}
			}
			wantErr(t, "no bytes, no page", Write(p, kind, nil, nil), api.ErrArg)
			wantErr(t, "no bytes, two pages", Write(p, kind, []int{3, 4}, nil), api.ErrArg)
		}
		if now := p.Frames(); !slices.Equal(now, was) {
			t.Errorf("frames\n%v, want\n%v", now, was)
		}
	}
	d, p := newPool(t, 24, 8)
	d.Fail(0)
	try(t, p, make([]api.Frame, 8))
	wantFault(t, "wrong arguments", d)
	d, p = allPinned(t, 24, 10, 11, 12, 13, 14, 15, 16, 17)
	d.Fail(0)
	try(t, p, p.Frames())
	wantFault(t, "wrong arguments, no room", d)
	wantErr(t, "right ones, no room", Write(p, 2, []int{5, 3, 7}, b), api.ErrFull)
}

// A page that the disk has not is Put's error: those ahead of it are put, those behind it are not.
func TestWriteOverPagesThatAreNone(t *testing.T) {
	b := plain(1, 5*full)
	for at := range 5 {
		for _, n := range []int{24, 25, 4096, 1<<32 - 1} {
			_, p := newPool(t, 24, 8)
			pages := []int{20, 9, 23, 2, 11}
			pages[at] = n
			wantErr(t, n, Write(p, api.PageChain, pages, b), api.ErrArg)
			wantFrames(t, n, p, pages[:at]...)
			for i, c := range cellsOf(2, pages, b)[:at] {
				wantGet(t, n, p, pages[i], laid(c))
			}
		}
	}
}

func TestWriteWithoutRoom(t *testing.T) {
	b := plain(1, 4*full)
	for at := range 4 {
		_, p := allPinned(t, 24, 10, 11, 12, 13, 14, 15, 16, 17)
		pages := []int{12, 15, 10, 17}
		pages[at] = 3
		wantErr(t, at, Write(p, api.PageSpace, pages, b), api.ErrFull)
		cells := cellsOf(3, pages, b)
		for n := 10; n < 18; n++ {
			want := plain(uint64(n), size)
			if i := slices.Index(pages, n); i >= 0 && i < at {
				want = laid(cells[i])
			}
			wantGet(t, at, p, n, want)
		}
	}
	// One frame is enough.
	_, p := allPinned(t, 24, 10, 11, 12, 13, 14, 15, 16, 17)
	wantErr(t, "Unpin", p.Unpin(13), api.OK)
	write(t, p, 2, []int{5, 3, 7, 13}, b)
	wantRead(t, "one frame", p, 2, 5, 4, b, []int{5, 3, 7, 13})
}

// Each Put needs the room of a dirty page: it fails where that one's save does.
func TestWriteWhereASaveFails(t *testing.T) {
	b := plain(1, 4*full)
	pages := []int{5, 3, 7, 2}
	for after := range 4*8 + 1 {
		d, p := newPool(t, 24, 8)
		for n := 10; n < 18; n++ {
			put(t, p, n, plain(uint64(n), size))
		}
		d.Fail(after)
		err := Write(p, api.PageOver, pages, b)
		if after == 4*8 {
			wantErr(t, after, err, api.OK)
			wantFault(t, after, d)
			continue
		}
		wantErr(t, after, err, api.ErrIO)
		want := []int{10, 11, 12, 13, 14, 15, 16, 17}
		copy(want, pages[:after/8])
		for i, f := range p.Frames() {
			if f.Page != want[i] || !f.Dirty {
				t.Errorf("after %d: frame %d: %v, want page %d", after, i, f, want[i])
			}
		}
		for i, c := range cellsOf(7, pages, b)[:after/8] {
			wantGet(t, after, p, pages[i], laid(c))
		}
	}
}

// P9.2: Read.

// lay puts cells on pages, whether they may be or not.
func lay(t *testing.T, p *pool.Pool, pages []int, cells []cell) {
	t.Helper()
	for i, c := range cells {
		put(t, p, pages[i], laid(c))
	}
}

func TestRead(t *testing.T) {
	for _, kind := range kinds() {
		for _, n := range lengths() {
			for _, b := range [][]byte{plain(uint64(n), n), make([]byte, n)} {
				d, p := newPool(t, 64, 8)
				pages := skipping(Need(n), n)
				lay(t, p, pages, cellsOf(kind, pages, b))
				wantRead(t, n, p, kind, pages[0], len(pages), b, pages)
				wantErr(t, n, p.Flush(), api.OK)
				p.Reset()
				before := d.Image()
				wantRead(t, n, p, kind, pages[0], len(pages), b, pages)
				for i, f := range p.Frames() {
					if i < len(pages) && (f.Page != pages[i] || f.Dirty || f.Pins > 0) || i >= len(pages) && f.Is {
						t.Errorf("%d: frame %d: %v", n, i, f)
					}
				}
				if len(d.Cached()) > 0 || !bytes.Equal(d.Image(), before) {
					t.Errorf("%d: Read writes", n)
				}
			}
		}
	}
}

func TestReadOfWrongArguments(t *testing.T) {
	d, p := newPool(t, 24, 8)
	b, pages := plain(1, 9000), []int{5, 3, 7}
	write(t, p, 2, pages, b)
	d.Fail(0)
	for _, most := range []int{3, 2, 0, -1, math.MaxInt} {
		for _, kind := range wrongKinds() {
			for _, head := range []int{5, 3, 1, 0, -1, 24, 9, math.MaxInt} {
				wantNoRead(t, kind, p, kind, head, most, api.ErrArg)
			}
		}
		for _, kind := range kinds() {
			for _, head := range []int{1, 0, -1, -2, -5, math.MinInt, math.MinInt + 5, -1 << 32, -1<<32 + 5} {
				wantNoRead(t, head, p, kind, head, most, api.ErrArg)
			}
		}
	}
	wantFault(t, "wrong arguments", d)
	wantFrames(t, "wrong arguments", p, pages...)
	wantRead(t, "right ones", p, 2, 5, 3, b, pages)
}

// A page that the disk has not is Get's error, whatever most is.
func TestReadOfPagesThatAreNone(t *testing.T) {
	for _, n := range []int{24, 25, 4095, 4096, 1<<31 + 5, 1<<32 - 1} {
		for at := range 4 {
			_, p := newPool(t, 24, 8)
			pages := []int{5, 3, 7, 2}
			pages[at] = n
			cells := cellsOf(2, pages, plain(1, 4*full))
			lay(t, p, pages[:at], cells[:at])
			for _, most := range []int{9, 4, at + 1, at} {
				wantNoRead(t, n, p, 2, pages[0], most, api.ErrArg)
			}
			if at > 0 {
				wantNoRead(t, "fewer", p, 2, pages[0], at-1, api.ErrBad)
			}
		}
	}
	_, p := newPool(t, 24, 8)
	for _, head := range []int{24, 1<<32 - 1, 1 << 32, 1<<32 + 5, math.MaxInt} {
		for _, most := range []int{9, 1, 0, -1, math.MinInt} {
			wantNoRead(t, head, p, 2, head, most, api.ErrArg)
		}
	}
}

func TestReadWhereALoadFails(t *testing.T) {
	b, pages := plain(1, 4*full), []int{5, 3, 7, 2}
	for after := range 4*8 + 1 {
		for most := -1; most < 6; most++ {
			d, p := newPool(t, 24, 8)
			write(t, p, 2, pages, b)
			wantErr(t, "Flush", p.Flush(), api.OK)
			p.Reset()
			d.Fail(after)
			switch {
			case after/8 < min(4, max(most, 0)+1):
				wantNoRead(t, after, p, 2, 5, most, api.ErrIO)
			case most < 4:
				wantNoRead(t, after, p, 2, 5, most, api.ErrBad)
			default:
				wantRead(t, after, p, 2, 5, most, b, pages)
				wantFault(t, after, d)
			}
			d.Fail(-1)
			wantRead(t, "once more", p, 2, 5, 4, b, pages)
		}
	}
}

func TestReadWithoutRoom(t *testing.T) {
	b, pages := plain(1, 4*full), []int{5, 3, 7, 2}
	for at := range 5 {
		pinned := append(slices.Clone(pages[:at]), 10, 11, 12, 13, 14, 15, 16, 17)[:8]
		_, p := allPinned(t, 24, pinned...)
		lay(t, p, pages[:at], cellsOf(2, pages, b)[:at])
		if at == 4 {
			wantRead(t, "all in frames", p, 2, 5, 4, b, pages)
			continue
		}
		for _, most := range []int{4, at + 1, at} {
			wantNoRead(t, at, p, 2, 5, most, api.ErrFull)
		}
		if at > 0 {
			wantNoRead(t, at, p, 2, 5, at-1, api.ErrBad)
		}
	}
}

// A page that was never written, or has any bytes, is no page.
func TestReadOfNoPage(t *testing.T) {
	b, pages := plain(1, 3*full), []int{5, 3, 7}
	for at := range 3 {
		for _, kind := range kinds() {
			_, p := newPool(t, 24, 8)
			cells := cellsOf(kind, pages, b)
			lay(t, p, pages[:at], cells[:at])
			wantNoRead(t, "never written", p, kind, 5, 9, api.ErrBad)
			put(t, p, pages[at], plain(7, size))
			wantNoRead(t, "any bytes", p, kind, 5, 9, api.ErrBad)
			lay(t, p, pages, cells)
			wantRead(t, "well", p, kind, 5, 3, b, pages)
			for _, bit := range []int{0, 7, 8 * 3, 8*3 + 2, 8 * 4, 8 * 8, 8 * 11, 8 * 12, 8*15 + 7, 8 * 16, 8 * 20, 8 * 22, 8*4095 + 7} {
				turned := laid(cells[at])
				turned[bit/8] ^= 1 << (bit % 8)
				put(t, p, pages[at], turned)
				wantNoRead(t, bit, p, kind, 5, 9, api.ErrBad)
			}
			lay(t, p, pages, cells)
			wantRead(t, "well again", p, kind, 5, 3, b, pages)
		}
	}
}

// changed puts a well laid chain with one page's cell changed, and reads it.
func changed(t *testing.T, about any, b []byte, at int, change func(c *cell), want api.Errno) {
	t.Helper()
	pages := []int{5, 3, 7, 2}[:Need(len(b))]
	for _, kind := range kinds() {
		_, p := newPool(t, 24, 8)
		cells := cellsOf(kind, pages, b)
		lay(t, p, pages, cells)
		wantRead(t, "unchanged", p, kind, 5, 9, b, pages)
		change(&cells[at])
		lay(t, p, pages, cells)
		wantNoRead(t, fmt.Sprint(about, ", page ", at, " of ", len(pages)), p, kind, 5, 9, want)
	}
}

// each hands on chains of one to four pages, the last one full or not, and each place in them.
func each(do func(b []byte, at int, last bool)) {
	for count := 1; count < 5; count++ {
		for _, n := range []int{count * full, count*full - 1, (count-1)*full + 1, count*full - 2000} {
			for at := range count {
				do(plain(uint64(n), n), at, at == count-1)
			}
		}
	}
}

func TestReadOfAnotherKind(t *testing.T) {
	each(func(b []byte, at int, last bool) {
		for by := byte(1); by < 7; by++ {
			changed(t, "another kind", b, at, func(c *cell) { c.kind = (c.kind-1+by)%7 + 1 }, api.ErrBad)
		}
		for _, kind := range []byte{0, 8, 255} {
			changed(t, kind, b, at, func(c *cell) { c.kind = kind }, api.ErrBad)
		}
	})
	_, p := newPool(t, 24, 8)
	write(t, p, 3, []int{5, 3}, plain(1, 5000))
	wantNoRead(t, "another kind", p, 2, 5, 9, api.ErrBad)
	wantNoRead(t, "another kind", p, 7, 5, 9, api.ErrBad)
}

func TestReadOfAnotherNumber(t *testing.T) {
	each(func(b []byte, at int, last bool) {
		for _, by := range []uint32{1, 2, 3, 1<<32 - 1, 256, 1 << 16, 1 << 24, 1 << 31} {
			changed(t, by, b, at, func(c *cell) { c.number += by }, api.ErrBad)
		}
	})
	// From a page behind the first one on.
	_, p := newPool(t, 24, 8)
	write(t, p, 3, []int{5, 3, 7}, plain(1, 9000))
	wantNoRead(t, "the second one", p, 3, 3, 9, api.ErrBad)
	wantNoRead(t, "the third one", p, 3, 7, 9, api.ErrBad)
}

func TestReadOfALengthThatMayNotBe(t *testing.T) {
	each(func(b []byte, at int, last bool) {
		for _, n := range []uint16{4075, 4076, 4080, 4096, 8148, 1 << 15, 1<<16 - 1} {
			changed(t, n, b, at, func(c *cell) { c.length = n }, api.ErrBad)
			changed(t, n, b, at, func(c *cell) { c.length, c.bytes = n, nil }, api.ErrBad)
		}
		if last {
			return
		}
		for _, n := range []uint16{0, 1, 2, 4000, 4072, 4073} {
			changed(t, n, b, at, func(c *cell) { c.length = n }, api.ErrBad)
			changed(t, n, b, at, func(c *cell) { c.length, c.bytes = n, c.bytes[:n] }, api.ErrBad)
		}
	})
	for count := 2; count < 5; count++ {
		for _, n := range []int{count * full, (count-1)*full + 1} {
			changed(t, "nothing in the last one", plain(1, n), count-1, func(c *cell) { c.length, c.bytes = 0, nil }, api.ErrBad)
		}
	}
}

// The first page alone may have no bytes, if it is the last one.
func TestReadOfNoBytes(t *testing.T) {
	for _, kind := range kinds() {
		_, p := newPool(t, 24, 8)
		empty := cell{kind: byte(kind)}
		put(t, p, 5, laid(empty))
		wantRead(t, "none", p, kind, 5, 1, nil, []int{5})
		empty.next = 3
		put(t, p, 5, laid(empty))
		put(t, p, 3, laid(cell{kind: byte(kind), number: 1}))
		wantNoRead(t, "one behind it", p, kind, 5, 9, api.ErrBad)
		put(t, p, 3, laid(cell{kind: byte(kind), number: 1, length: 2, bytes: []byte("ab")}))
		wantNoRead(t, "one with bytes behind it", p, kind, 5, 9, api.ErrBad)
	}
}

// In a page that is not the last one, and in a full one, nothing stands behind.
func TestReadOfBytesBehind(t *testing.T) {
	for _, n := range []int{0, 1, 2, 100, 4072, 4073} {
		for count := 1; count < 5; count++ {
			if n == 0 && count > 1 {
				continue
			}
			for _, at := range []int{n, n + 1, (n + full) / 2, 4072, 4073} {
				if at < n || at >= full {
					continue
				}
				for _, x := range []byte{1, 0x80, 0xff} {
					changed(t, fmt.Sprint(n, ", ", at), plain(1, (count-1)*full+n), count-1, func(c *cell) {
						c.bytes = append(slices.Clone(c.bytes), make([]byte, full-n)...)
						c.bytes[at] = x
					}, api.ErrBad)
				}
			}
		}
	}
	// Noughts that are told, or not, are two chains.
	_, p := newPool(t, 24, 8)
	put(t, p, 5, laid(cell{kind: 2, length: 3, bytes: []byte{1, 0, 0}}))
	wantRead(t, "noughts", p, 2, 5, 1, []byte{1, 0, 0}, []int{5})
	put(t, p, 5, laid(cell{kind: 2, length: 1, bytes: []byte{1, 0, 0}}))
	wantRead(t, "noughts", p, 2, 5, 1, []byte{1}, []int{5})
}

func TestReadOfANextOneThatMayNotBe(t *testing.T) {
	each(func(b []byte, at int, last bool) {
		changed(t, "1", b, at, func(c *cell) { c.next = 1 }, api.ErrBad)
		for i, n := range []uint32{5, 3, 7, 2}[:at+1] {
			changed(t, fmt.Sprint("page ", i), b, at, func(c *cell) { c.next = n }, api.ErrBad)
		}
		if !last {
			changed(t, "none", b, at, func(c *cell) { c.next, c.length, c.bytes = 0, 0, c.bytes[:1] }, api.ErrBad)
			return
		}
		if len(b)%full == 0 {
			changed(t, "a page that was never written", b, at, func(c *cell) { c.next = 9 }, api.ErrBad)
			changed(t, "a page that the disk has not", b, at, func(c *cell) { c.next = 24 }, api.ErrArg)
		}
	})
	// 1 and a circle end the reading ahead of the page that they lead to.
	d, p := newPool(t, 24, 8)
	for _, next := range []uint32{1, 5} {
		put(t, p, 5, laid(cell{kind: 2, next: next, length: full, bytes: plain(1, full)}))
		d.Fail(0)
		wantNoRead(t, next, p, 2, 5, 9, api.ErrBad)
		wantFault(t, next, d)
	}
}

// A circle ends the reading ahead of the page that it leads to, even where that one has lost its frame: a fault waits on.
func TestReadOfACircle(t *testing.T) {
	pages := []int{5, 3, 7, 2}
	for to := range pages {
		for at := to; at < len(pages); at++ {
			d, p := newPool(t, 24, 8)
			cells := cellsOf(2, pages, plain(1, 4*full))
			cells[at].next = uint32(pages[to])
			lay(t, p, pages, cells)
			wantErr(t, "Flush", p.Flush(), api.OK)
			p.Reset()
			for n := 10; n < 17; n++ { // one frame is left for the chain
				wantErr(t, n, p.Pin(n), api.OK)
			}
			for _, most := range []int{at + 1, 9} {
				p.Drop(pages[at])
				d.Fail(8 * (at + 1))
				wantNoRead(t, fmt.Sprint(at, " leads to ", to), p, 2, 5, most, api.ErrBad)
				wantFault(t, fmt.Sprint(at, " leads to ", to), d)
			}
		}
	}
}

// A full page without a next one ends the chain, wherever the others lead.
func TestReadEndsAtTheLastOne(t *testing.T) {
	_, p := newPool(t, 24, 8)
	b := plain(1, 3*full)
	write(t, p, 2, []int{5, 3, 7}, b)
	put(t, p, 3, laid(cell{kind: 2, number: 1, length: full, bytes: b[full:]}))
	wantRead(t, "the second one is the last", p, 2, 5, 2, b[:2*full], []int{5, 3})
	put(t, p, 5, laid(cell{kind: 2, length: 7, bytes: b[:7]}))
	wantRead(t, "the first one is the last", p, 2, 5, 1, b[:7], []int{5})
}

func TestMost(t *testing.T) {
	for _, n := range lengths() {
		_, p := newPool(t, 64, 8)
		pages, b := skipping(Need(n), n), plain(1, n)
		write(t, p, 3, pages, b)
		for _, most := range []int{len(pages), len(pages) + 1, len(pages) + 2, 64, 4096, 1<<32 + 1, math.MaxInt} {
			wantRead(t, n, p, 3, pages[0], most, b, pages)
		}
		for _, most := range []int{0, -1, -2, -len(pages), math.MinInt, math.MinInt32, len(pages) - 1, len(pages) - 2} {
			wantNoRead(t, n, p, 3, pages[0], most, api.ErrBad)
		}
	}
}

// P9.3: what follows.

func TestWhatWasWrittenIsRead(t *testing.T) {
	for _, kind := range kinds() {
		for _, frames := range []int{8, 9, 30} {
			d, p := newPool(t, 64, frames)
			for _, n := range append(lengths(), 20*full, 61*full-1, 61*full) {
				pages, b := skipping(Need(n), n), plain(uint64(n), n)
				write(t, p, kind, pages, b)
				wantRead(t, "at once", p, kind, pages[0], len(pages), b, pages)
				for frame := range frames / 2 {
					p.Evict(2 * frame)
				}
				wantRead(t, "behind evictions", p, kind, pages[0], len(pages), b, pages)
				wantErr(t, "Flush", p.Flush(), api.OK)
				wantErr(t, "Crash", d.Crash(api.Crash{Torn: -1}), api.OK)
				p.Reset()
				wantRead(t, "behind a crash", p, kind, pages[0], len(pages), b, pages)
			}
		}
	}
}

// Chains side by side, and other pages written, change nothing of each other.
func TestOtherPagesChangeNothing(t *testing.T) {
	_, p := newPool(t, 64, 8)
	type one struct {
		kind  int
		pages []int
		b     []byte
	}
	var chains []one
	free := skipping(61, 4)
	for i, n := range []int{0, 9000, 1, 5 * full, 3*full + 1, 4073, 8149} {
		c := one{kinds()[i%3], free[:Need(n)], plain(uint64(i), n)}
		free = free[Need(n):]
		write(t, p, c.kind, c.pages, c.b)
		chains = append(chains, c)
	}
	for round := range 3 {
		for _, n := range free {
			put(t, p, n, plain(uint64(n+round), size))
		}
		for i, c := range chains {
			wantRead(t, i, p, c.kind, c.pages[0], len(c.pages), c.b, c.pages)
		}
		// One of them is written anew, elsewhere, and shorter or longer.
		c := &chains[round*2+1]
		c.b = plain(uint64(50+round), round*4000+10)
		free = append(free, c.pages...)
		c.pages, free = free[:Need(len(c.b))], free[Need(len(c.b)):]
		write(t, p, c.kind, c.pages, c.b)
	}
	for i, c := range chains {
		wantRead(t, i, p, c.kind, c.pages[0], len(c.pages), c.b, c.pages)
	}
}

// What was written last over the same pages is read.
func TestWrittenAnew(t *testing.T) {
	_, p := newPool(t, 64, 8)
	pages := skipping(12, 0)
	for i, n := range []int{12 * full, 11*full + 1, 5 * full, 4075, 4074, 1, 0, 3, 9000, 12*full - 1} {
		b := plain(uint64(i), n)
		write(t, p, 7, pages[:Need(n)], b)
		wantRead(t, n, p, 7, pages[0], Need(n), b, pages[:Need(n)])
	}
	// The same pages in another order.
	turned := slices.Clone(pages)
	slices.Reverse(turned)
	b := plain(99, 12*full)
	write(t, p, 7, turned, b)
	wantRead(t, "turned", p, 7, turned[0], 12, b, turned)
	wantNoRead(t, "turned", p, 7, pages[0], 12, api.ErrBad)
}

// A page of the chain that is written otherwise is told.
func TestPageWrittenOtherwise(t *testing.T) {
	b, pages := plain(1, 4*full), []int{5, 3, 7, 2}
	for at := range 4 {
		_, p := newPool(t, 24, 8)
		write(t, p, 2, pages, b)
		write(t, p, 2, pages[at:at+1], []byte("another chain"))
		if at == 0 {
			wantRead(t, at, p, 2, 5, 4, []byte("another chain"), []int{5})
			continue
		}
		wantNoRead(t, at, p, 2, 5, 4, api.ErrBad)
	}
}

// As long a chain as any disk has.
func TestGreatestChain(t *testing.T) {
	d, p := newPool(t, api.MaxPages, api.MaxFrames)
	pages := make([]int, api.MaxPages-2)
	for i := range pages {
		pages[i] = 2 + i*2003%len(pages)
	}
	b := plain(1, len(pages)*full)
	write(t, p, 2, pages, b)
	wantRead(t, "the greatest", p, 2, pages[0], len(pages), b, pages)
	wantNoRead(t, "one less", p, 2, pages[0], len(pages)-1, api.ErrBad)
	wantErr(t, "Flush", p.Flush(), api.OK)
	p.Reset()
	wantRead(t, "from the disk", p, 2, pages[0], api.MaxPages, b, pages)
	// Its last page leads to each other one: a circle.
	last := cellsOf(2, pages, b)[len(pages)-1]
	for _, at := range []int{0, 1, len(pages) / 2, len(pages) - 2, len(pages) - 1} {
		last.next = uint32(pages[at])
		put(t, p, pages[len(pages)-1], laid(last))
		wantNoRead(t, at, p, 2, pages[0], math.MaxInt, api.ErrBad)
	}
	if d.Sectors() != api.MaxSectors {
		t.Error("another disk")
	}
}

// Rule 3: what is handed in is left as it is and not kept, and an answer is new memory.

// roomy is a list with spare room, and all of it.
func roomy[T any](l []T, more ...T) ([]T, []T) {
	whole := append(slices.Clone(l), more...)
	return whole[:len(l)], whole
}

// spoil changes an answer, and all of its spare room.
func spoil(b []byte) {
	b = b[:cap(b)]
	for i := range b {
		b[i] ^= 0x55
	}
}

func spoilPages(l []int) {
	l = l[:cap(l)]
	for i := range l {
		l[i] = -9
	}
}

func TestWhatIsHandedInIsLeftAsItIs(t *testing.T) {
	for _, n := range lengths() {
		_, p := newPool(t, 64, 64)
		right := skipping(Need(n), n)
		pages, allPages := roomy(right, 7, 8, 9)
		b, allBytes := roomy(plain(1, n), plain(2, 5000)...)
		wasPages, wasBytes := slices.Clone(allPages), slices.Clone(allBytes)
		wantPages(t, n, 2, pages, b)
		write(t, p, 2, pages, b)
		l, _ := Pages(2, pages, b)
		for i := range l {
			spoil(l[i])
		}
		for _, n := range right {
			put(t, p, n, make([]byte, size))
		}
		Pages(9, pages, b)
		Write(p, 2, pages[:len(pages)-1], b)
		if !slices.Equal(allPages, wasPages) || !bytes.Equal(allBytes, wasBytes) {
			t.Errorf("%d: what was handed in, or what stands behind it, is changed", n)
		}
	}
}

func TestWhatIsHandedInIsNotKept(t *testing.T) {
	for _, n := range lengths() {
		_, p := newPool(t, 64, 8)
		right, want := skipping(Need(n), n), plain(1, n)
		pages, b := slices.Clone(right), slices.Clone(want)
		l, err := Pages(3, pages, b)
		wantErr(t, n, err, api.OK)
		write(t, p, 3, pages, b)
		spoilPages(pages)
		spoil(b)
		for i, c := range cellsOf(3, right, want) {
			if !bytes.Equal(l[i], laid(c)) {
				t.Errorf("%d: what Pages answered is changed later", n)
			}
		}
		wantRead(t, n, p, 3, right[0], len(right), want, right)
	}
}

func TestPagesAreNewMemory(t *testing.T) {
	for _, n := range lengths() {
		pages, b := skipping(Need(n), n), plain(1, n)
		cells := cellsOf(3, pages, b)
		first, _ := Pages(3, pages, b)
		second, _ := Pages(3, pages, b)
		for i := range first {
			spoil(first[i])
			for j := range first {
				if j > i && !bytes.Equal(first[j], laid(cells[j])) {
					t.Errorf("%d: two pages share memory", n)
				}
			}
		}
		clear(first[:cap(first)])
		for i := range second {
			if !bytes.Equal(second[i], laid(cells[i])) {
				t.Errorf("%d: two answers share memory", n)
			}
		}
		wantPages(t, n, 3, pages, b)
	}
}

func TestReadAnswersNewMemory(t *testing.T) {
	for _, n := range lengths() {
		d, p := newPool(t, 64, 64)
		pages, b := skipping(Need(n), n), plain(1, n)
		write(t, p, 3, pages, b)
		for range 2 {
			first, firstPages, _ := Read(p, 3, pages[0], 9)
			second, secondPages, _ := Read(p, 3, pages[0], 9)
			spoil(first)
			spoilPages(firstPages)
			if !bytes.Equal(second, b) || !slices.Equal(secondPages, pages) {
				t.Errorf("%d: two answers share memory", n)
			}
			wantRead(t, n, p, 3, pages[0], 9, b, pages)
			for _, other := range pages {
				put(t, p, other, make([]byte, size))
			}
			if !bytes.Equal(second, b) || !slices.Equal(secondPages, pages) {
				t.Errorf("%d: what Read answered is changed later", n)
			}
			write(t, p, 3, pages, b)
			wantErr(t, "Flush", p.Flush(), api.OK)
			p.Reset()
		}
		for i, c := range cellsOf(3, pages, b) {
			if !bytes.Equal(d.Image()[pages[i]*size:][:size], laid(c)) {
				t.Errorf("%d: the disk is changed", n)
			}
		}
	}
}

// Whatever the pages hold, Read ends, and answers what the chapter says: pages laid by a script, held against toldOf.

// turn changes one thing of a cell that a script tells.
func turn(c *cell, what, by byte, pages int) {
	switch what % 12 {
	case 0, 1:
		c.next = uint32(by) % uint32(pages+1)
	case 2:
		c.next = uint32(by) << (by % 25)
	case 3, 4:
		c.number = uint32(by) % 8
	case 5:
		c.kind = 1 + by%7
	case 6:
		c.length = uint16(by) * 257
	case 7:
		c.length = full - 1 + uint16(by%3)
	case 8:
		c.length, c.bytes = uint16(by%3), c.bytes[:by%3]
	case 9:
		c.bytes = append(slices.Clone(c.bytes[:min(int(c.length), len(c.bytes))]), by)
	case 10:
		c.next = 0
	case 11:
		c.length = full
	}
}

// play lays pages by a script, and holds every Read of them against toldOf; it answers how often each error was seen, and how long the chains were.
func play(t *testing.T, pages int, script []byte) (map[api.Errno]int, map[int]int) {
	t.Helper()
	errs, long := map[api.Errno]int{}, map[int]int{}
	cells := make([]cell, pages)
	for i := range cells {
		cells[i] = cell{kind: byte(2 + i%2), length: full, bytes: plain(uint64(i), full)}
	}
	// A well laid chain first, whose order the script tells.
	order := make([]int, 0, pages)
	for n := 2; n < pages; n++ {
		at := 0
		if len(script) > 0 {
			at, script = int(script[0])%(len(order)+1), script[1:]
		}
		order = slices.Insert(order, at, n)
	}
	for i, c := range cellsOf(2, order, plain(9, len(order)*full)) {
		cells[order[i]] = c
	}
	for ; len(script) >= 3; script = script[3:] {
		turn(&cells[int(script[0])%pages], script[1], script[2], pages)
	}
	_, p := newPool(t, pages, 8)
	whole := make([][]byte, pages)
	for n, c := range cells {
		whole[n] = laid(c)
		put(t, p, n, whole[n])
	}
	get := func(n int) ([]byte, api.Errno) {
		if n < 0 || n >= pages {
			return nil, api.ErrArg
		}
		return whole[n], api.OK
	}
	for _, kind := range kinds() {
		for head := 2; head < pages+2; head++ {
			for _, most := range []int{-1, 0, 1, 2, 3, 5, pages, math.MaxInt} {
				b, l, err := toldOf(get, kind, head, most)
				errs[err]++
				long[len(l)]++
				if err != api.OK {
					wantNoRead(t, "a script", p, kind, head, most, err)
					continue
				}
				wantRead(t, "a script", p, kind, head, most, b, l)
			}
		}
	}
	return errs, long
}

func TestScripts(t *testing.T) {
	errs, long := map[api.Errno]int{}, map[int]int{}
	for i := range uint64(300) {
		pages := 3 + int(i%14)
		e, l := play(t, pages, plain(i, pages+3*int(i%11)))
		for err, n := range e {
			errs[err] += n
		}
		for pages, n := range l {
			long[pages] += n
		}
	}
	for _, err := range []api.Errno{api.OK, api.ErrArg, api.ErrBad} {
		if errs[err] < 300 {
			t.Errorf("error %d is seen %d times", err, errs[err])
		}
	}
	for pages := 1; pages < 12; pages++ {
		if long[pages] < 3 {
			t.Errorf("chains of %d pages are seen %d times", pages, long[pages])
		}
	}
}

// Any bytes written are read; any pages laid are read as the chapter says.
func FuzzChain(f *testing.F) {
	f.Add([]byte{}, uint16(0), uint8(0))
	f.Add([]byte("ab"), uint16(4073), uint8(5))
	f.Add(plain(1, 60), uint16(8147), uint8(12))
	f.Add([]byte{0, 1, 2, 3, 2, 0, 1, 2, 0, 2, 4, 7, 1}, uint16(12222), uint8(6))
	f.Fuzz(func(t *testing.T, b []byte, more uint16, pages uint8) {
		play(t, 3+int(pages)%14, b[:min(len(b), 200)])
		b = append(slices.Clone(b), make([]byte, more)...)
		if Need(len(b)) > 61 {
			return
		}
		_, p := newPool(t, 64, 8)
		kind, list := kinds()[int(pages)%3], skipping(Need(len(b)), int(pages))
		wantPages(t, "any bytes", kind, list, b)
		write(t, p, kind, list, b)
		wantRead(t, "any bytes", p, kind, list[0], len(list), b, list)
		wantNoRead(t, "any bytes", p, kind, list[0], len(list)-1, api.ErrBad)
	})
}
