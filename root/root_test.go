package root

import (
	"bytes"
	"encoding/binary"
	"encoding/hex"
	"hash/crc32"
	"math"
	"slices"
	"testing"

	"tallyman/api"
	"tallyman/sector"
)

const size = api.PageSize

// plain are bytes without a pattern, told by where they begin.
func plain(from uint64, n int) []byte {
	b := make([]byte, n)
	for i, w := 0, from*2+1; i < n; i++ {
		w = w*6364136223846793005 + 1442695040888963407
		b[i] = byte(w >> 56)
	}
	return b
}

// summed answers a page's bytes with the sum that fits, whatever the others are.
func summed(b []byte) []byte {
	b = slices.Clone(b)
	clear(b[12:16])
	binary.LittleEndian.PutUint32(b[12:], crc32.Checksum(b, crc32.MakeTable(crc32.Castagnoli)))
	return b
}

func numbersOf(r api.Root) []uint64 {
	return []uint64{r.Epoch, r.Pages, r.Table, r.Space, r.Logical, r.Meta[0], r.Meta[1], r.Meta[2], r.Meta[3]}
}

func rootOf(l []uint64) api.Root {
	return api.Root{Epoch: l[0], Pages: l[1], Table: l[2], Space: l[3], Logical: l[4], Meta: [4]uint64(l[5:])}
}

// laidOf is a root's page as the chapters tell it, written apart from the program's own, whether the root may be or not.
func laidOf(r api.Root) []byte {
	b := append([]byte{0x54, 0x4d, 1, 1}, make([]byte, size-4)...)
	binary.LittleEndian.PutUint32(b[4:], uint32(r.Epoch))
	for i, n := range numbersOf(r) {
		binary.LittleEndian.PutUint64(b[16+8*i:], n)
	}
	return summed(b)
}

// mayBe tells it as the chapter does, written apart from the program's own.
func mayBe(r api.Root) bool {
	head := func(n uint64) bool { return n == 0 || 2 <= n && n < r.Pages }
	return r.Epoch >= 1 && 8 <= r.Pages && r.Pages <= 4096 && head(r.Table) && head(r.Space) && r.Logical <= 65536
}

func newDisk(t *testing.T, sectors int) *sector.Disk {
	t.Helper()
	d, err := sector.New(sectors)
	if err != api.OK {
		t.Fatalf("a disk of %d sectors: error %d", sectors, err)
	}
	return d
}

func diskOf(t *testing.T, b []byte) *sector.Disk {
	t.Helper()
	d, err := sector.Of(b)
	if err != api.OK {
		t.Fatalf("a disk of %d bytes: error %d", len(b), err)
	}
	return d
}

// slotsOf is a disk of so many pages that has these bytes in its slots.
func slotsOf(t *testing.T, pages int, first, second []byte) *sector.Disk {
	t.Helper()
	return diskOf(t, slices.Concat(first, second, plain(9, (pages-2)*size)))
}

// noDisks are those that nobody made.
func noDisks() []*sector.Disk {
	return []*sector.Disk{nil, {}, new(sector.Disk)}
}

// some is a root that may be on a disk of 8 pages.
func some(epoch uint64) api.Root {
	return api.Root{Epoch: epoch, Pages: 8, Table: 2, Space: 3, Logical: 4, Meta: [4]uint64{epoch, 6, 7, math.MaxUint64}}
}

func wantErr(t *testing.T, about any, err, want api.Errno) {
	t.Helper()
	if err != want {
		t.Errorf("%v: error %d, want %d", about, err, want)
	}
}

func wantBytes(t *testing.T, about any, r api.Root) {
	t.Helper()
	wantErr(t, about, Check(r), api.OK)
	b, err := Bytes(r)
	if err != api.OK || !bytes.Equal(b, laidOf(r)) {
		t.Errorf("%v: Bytes of %v: error %d, %d bytes, not those of the chapter", about, r, err, len(b))
	}
}

func wantNoBytes(t *testing.T, about any, r api.Root) {
	t.Helper()
	wantErr(t, about, Check(r), api.ErrArg)
	if b, err := Bytes(r); err != api.ErrArg || len(b) != 0 {
		t.Errorf("%v: Bytes of %v: error %d, %d bytes", about, r, err, len(b))
	}
}

func wantRead(t *testing.T, about any, b []byte, want api.Root) {
	t.Helper()
	if r, err := Read(b); err != api.OK || r != want {
		t.Errorf("%v: Read: %v, error %d, want %v", about, r, err, want)
	}
}

func wantNoRead(t *testing.T, about any, b []byte) {
	t.Helper()
	if r, err := Read(b); err != api.ErrBad || r != (api.Root{}) {
		t.Errorf("%v: Read: %v, error %d", about, r, err)
	}
}

func wantFind(t *testing.T, about any, d *sector.Disk, want api.Root) {
	t.Helper()
	if r, err := Find(d); err != api.OK || r != want {
		t.Errorf("%v: Find: %v, error %d, want %v", about, r, err, want)
	}
}

func wantNoFind(t *testing.T, about any, d *sector.Disk, want api.Errno) {
	t.Helper()
	if r, err := Find(d); err != want || r != (api.Root{}) {
		t.Errorf("%v: Find: %v, error %d, want error %d", about, r, err, want)
	}
}

// The chapter's examples.

// exampleDisk has both roots written, the one behind the other, none flushed.
func exampleDisk(t *testing.T) *sector.Disk {
	t.Helper()
	d := newDisk(t, 64)
	wantErr(t, "Write 1", Write(d, api.Root{Epoch: 1, Pages: 8}), api.OK)
	wantErr(t, "Write 2", Write(d, api.Root{Epoch: 2, Pages: 8}), api.OK)
	wantFind(t, "Find", d, api.Root{Epoch: 2, Pages: 8})
	return d
}

func TestExamples(t *testing.T) {
	d := exampleDisk(t)
	wantErr(t, "a crash", d.Crash(api.Crash{Torn: -1}), api.OK)
	wantNoFind(t, "it keeps nothing", d, api.ErrBad)

	d = exampleDisk(t)
	keep := make([]bool, 16)
	for place, n := range d.Cached() {
		keep[place] = n/8 == 1
	}
	wantErr(t, "a crash", d.Crash(api.Crash{Keep: keep, Torn: -1}), api.OK)
	wantFind(t, "it keeps page 1's sectors alone", d, api.Root{Epoch: 1, Pages: 8})
}

// P6.1: Check, Bytes, Read, Slot, Choose.

func TestLimits(t *testing.T) {
	if api.MinPages != 8 || api.MaxPages != 4096 || api.MaxLogical != 65536 || api.PageRoot != 1 {
		t.Error("other limits than the document's")
	}
}

func TestEpoch(t *testing.T) {
	for _, epoch := range []uint64{1, 2, 3, 255, 256, 1<<32 - 1, 1 << 32, 1<<32 + 1, 1<<63 - 1, 1 << 63, math.MaxUint64 - 1, math.MaxUint64} {
		wantBytes(t, epoch, some(epoch))
		wantRead(t, epoch, laidOf(some(epoch)), some(epoch))
	}
	wantNoBytes(t, "Epoch 0", some(0))
	wantNoRead(t, "Epoch 0", laidOf(some(0)))
	wantNoBytes(t, "the zero root", api.Root{})
	wantNoRead(t, "the zero root", laidOf(api.Root{}))
}

func TestPages(t *testing.T) {
	of := func(pages uint64) api.Root { return api.Root{Epoch: 5, Pages: pages, Logical: 1} }
	for _, pages := range []uint64{8, 9, 100, 4095, 4096} {
		wantBytes(t, pages, of(pages))
		wantRead(t, pages, laidOf(of(pages)), of(pages))
	}
	for _, pages := range []uint64{0, 1, 2, 7, 4097, 8192, 1<<32 + 8, 1<<63 + 8, math.MaxInt64, math.MaxUint64} {
		wantNoBytes(t, pages, of(pages))
		wantNoRead(t, pages, laidOf(of(pages)))
	}
}

func TestHeads(t *testing.T) {
	for _, pages := range []uint64{8, 9, 1000, 4096} {
		for _, x := range []struct {
			n   uint64
			may bool
		}{
			{0, true}, {1, false}, {2, true}, {3, true}, {pages - 2, true}, {pages - 1, true},
			{pages, false}, {pages + 1, false}, {4096, false}, {1<<32 + 2, false}, {1<<63 + 2, false}, {math.MaxUint64, false},
		} {
			for _, r := range []api.Root{
				{Epoch: 3, Pages: pages, Table: x.n},
				{Epoch: 3, Pages: pages, Space: x.n},
				{Epoch: 3, Pages: pages, Table: x.n, Space: 4},
				{Epoch: 3, Pages: pages, Table: 4, Space: x.n},
				{Epoch: 3, Pages: pages, Table: x.n, Space: x.n},
			} {
				if x.may {
					wantBytes(t, x.n, r)
					wantRead(t, x.n, laidOf(r), r)
					continue
				}
				wantNoBytes(t, x.n, r)
				wantNoRead(t, x.n, laidOf(r))
			}
		}
	}
}

func TestLogical(t *testing.T) {
	of := func(logical uint64) api.Root { return api.Root{Epoch: 1, Pages: 8, Logical: logical} }
	for _, logical := range []uint64{0, 1, 8, 4096, 65535, 65536} {
		wantBytes(t, logical, of(logical))
		wantRead(t, logical, laidOf(of(logical)), of(logical))
	}
	for _, logical := range []uint64{65537, 1 << 17, 1 << 32, 1 << 63, math.MaxUint64} {
		wantNoBytes(t, logical, of(logical))
		wantNoRead(t, logical, laidOf(of(logical)))
	}
}

func TestMeta(t *testing.T) {
	for i := range 4 {
		for _, n := range []uint64{0, 1, 255, 256, 1<<32 - 1, 1 << 32, 1 << 63, 0x0102030405060708, math.MaxUint64 - 1, math.MaxUint64} {
			r := some(7)
			r.Meta[i] = n
			wantBytes(t, n, r)
			wantRead(t, n, laidOf(r), r)
		}
	}
}

// Each number at each edge with each other one: that is told by all of them, whichever is wrong.
func TestCheckOfAllTogether(t *testing.T) {
	heads := []uint64{0, 1, 2, 7, 8, 4095, 4096, math.MaxUint64}
	for _, epoch := range []uint64{0, 1, math.MaxUint64} {
		for _, pages := range []uint64{0, 7, 8, 4096, 4097} {
			for _, table := range heads {
				for _, space := range heads {
					for _, logical := range []uint64{0, 65536, 65537} {
						r := api.Root{Epoch: epoch, Pages: pages, Table: table, Space: space, Logical: logical}
						want := api.ErrArg
						if mayBe(r) {
							want = api.OK
						}
						wantErr(t, r, Check(r), want)
					}
				}
			}
		}
	}
}

// The words' places, spelt out.
func TestBytesSpelt(t *testing.T) {
	r := api.Root{Epoch: 0x0102030405060708, Pages: 0x100, Table: 0x12, Space: 0x34, Logical: 0x1234, Meta: [4]uint64{1, 2, 3, 0xfedcba9876543210}}
	b, err := Bytes(r)
	if err != api.OK || len(b) != 4096 {
		t.Fatalf("%d bytes, error %d", len(b), err)
	}
	if got := hex.EncodeToString(b[:12]); got != "544d01010807060500000000" {
		t.Errorf("the header: %s", got)
	}
	want := "0807060504030201" + "0001000000000000" + "1200000000000000" + "3400000000000000" + "3412000000000000" +
		"0100000000000000" + "0200000000000000" + "0300000000000000" + "1032547698badcfe"
	if got := hex.EncodeToString(b[16:88]); got != want {
		t.Errorf("the words: %s", got)
	}
	if slices.Max(b[88:]) != 0 {
		t.Error("no noughts behind the words")
	}
}

// A sum that fits stands in each of these pages: what is wrong is the part itself.
func TestReadOfAnotherPage(t *testing.T) {
	right := laidOf(some(258))
	wantRead(t, "the page itself", right, some(258))
	change := func(about any, at int, x byte) {
		t.Helper()
		b := slices.Clone(right)
		b[at] = x
		wantNoRead(t, about, summed(b))
	}
	for kind := range 256 {
		if kind != 1 {
			change("another Kind", 3, byte(kind))
		}
	}
	for at := 4; at < 8; at++ {
		for _, x := range []byte{1, 2, 0x80, 0xff} {
			change("another Number", at, right[at]^x)
		}
	}
	for at := 88; at < size; at++ {
		change("noughts missing behind the words", at, 1)
	}
	for _, at := range []int{0, 1, 2, 8, 11} {
		change("no page", at, 9)
	}
}

// The Number has the low bits alone: the high ones are the word's.
func TestNumberOfGreatEpochs(t *testing.T) {
	for _, epoch := range []uint64{1 << 32, 3 << 32, 1<<32 + 258, math.MaxUint64} {
		b := laidOf(some(epoch))
		wantRead(t, epoch, b, some(epoch))
		binary.LittleEndian.PutUint32(b[4:], uint32(epoch>>32)+1<<8)
		wantNoRead(t, epoch, summed(b))
	}
	b := laidOf(some(258))
	binary.LittleEndian.PutUint64(b[16:], 1<<32+258)
	wantRead(t, "another Epoch of that Number", summed(b), func() api.Root { r := some(258); r.Epoch += 1 << 32; return r }())
	binary.LittleEndian.PutUint64(b[16:], 259)
	wantNoRead(t, "an Epoch of another Number", summed(b))
}

func TestReadOfNoPage(t *testing.T) {
	b := append(laidOf(some(1)), plain(1, size)...)
	for _, n := range []int{0, 1, 12, 16, 87, 88, 89, 512, size - 1, size + 1, 2 * size} {
		wantNoRead(t, n, b[:n])
	}
	wantNoRead(t, "nil", nil)
	wantNoRead(t, "noughts", make([]byte, size))
	wantNoRead(t, "noughts with a sum", summed(make([]byte, size)))
	for i := range uint64(20) {
		wantNoRead(t, i, plain(i, size))
	}
	for at := range size {
		other := slices.Clone(b[:size])
		other[at] ^= 1 << (at % 8)
		wantNoRead(t, at, other)
	}
}

func TestSlot(t *testing.T) {
	for _, x := range []struct {
		epoch uint64
		slot  int
	}{
		{0, 0}, {1, 1}, {2, 0}, {3, 1}, {1<<32 - 1, 1}, {1 << 32, 0}, {1<<63 - 1, 1}, {1 << 63, 0}, {1<<63 + 1, 1}, {math.MaxUint64 - 1, 0}, {math.MaxUint64, 1},
	} {
		for _, r := range []api.Root{some(x.epoch), {Epoch: x.epoch}, {Epoch: x.epoch, Pages: 9, Table: 1}} {
			if got := Slot(r); got != x.slot {
				t.Errorf("%v: slot %d, want %d", r, got, x.slot)
			}
		}
	}
}

func TestChoose(t *testing.T) {
	epochs := []uint64{0, 1, 2, 3, 1 << 32, 1<<32 + 1, 1<<63 - 1, 1 << 63, math.MaxUint64 - 1, math.MaxUint64}
	wantChosen := func(a, b api.Root, isA, isB bool, want api.Root, is bool) {
		t.Helper()
		if r, ok := Choose(a, b, isA, isB); ok != is || r != want {
			t.Errorf("%v, %v, %v, %v: %v, %v", a, b, isA, isB, r, ok)
		}
	}
	for _, first := range epochs {
		for _, second := range epochs {
			a, b := api.Root{Epoch: first, Pages: 8, Meta: [4]uint64{1}}, api.Root{Epoch: second, Pages: 9, Meta: [4]uint64{2}}
			greater := a
			if second > first {
				greater = b
			}
			wantChosen(a, b, true, true, greater, true)
			wantChosen(a, b, true, false, a, true)
			wantChosen(a, b, false, true, b, true)
			wantChosen(a, b, false, false, api.Root{}, false)
		}
	}
	wantChosen(api.Root{}, some(1), true, false, api.Root{}, true)
	wantChosen(api.Root{}, api.Root{}, true, true, api.Root{}, true)
}

// P6.2: Find, Write.

func TestNoDisk(t *testing.T) {
	for i, d := range noDisks() {
		wantNoFind(t, i, d, api.ErrNil)
		wantErr(t, i, Write(d, some(1)), api.ErrNil)
		// The disk is named ahead of the root.
		wantErr(t, i, Write(d, api.Root{}), api.ErrNil)
		wantErr(t, i, Write(d, api.Root{Epoch: 1, Pages: 9}), api.ErrNil)
	}
}

func TestDisksThatAreTooSmall(t *testing.T) {
	for _, sectors := range []int{1, 7, 8, 15, 16, 17, 56, 63} {
		d := newDisk(t, sectors)
		wantNoFind(t, sectors, d, api.ErrArg)
		pages := uint64(sectors / 8)
		for _, r := range []api.Root{some(1), some(2), {Epoch: 1, Pages: pages}, {Epoch: 2, Pages: pages}, {}} {
			wantErr(t, sectors, Write(d, r), api.ErrArg)
		}
		if len(d.Cached()) != 0 {
			t.Errorf("%d sectors: %v are written", sectors, d.Cached())
		}
	}
	// Even with roots in the slots, as they would be there.
	for _, pages := range []int{2, 7} {
		r := api.Root{Epoch: 2, Pages: uint64(pages)}
		wantNoFind(t, pages, slotsOf(t, pages, laidOf(r), laidOf(some(1))), api.ErrArg)
	}
}

// The greatest disk has just MaxPages pages: one of more can not be made, and is none.
func TestGreatestDisk(t *testing.T) {
	d, err := sector.New(api.MaxSectors + 8)
	wantErr(t, "a greater disk", err, api.ErrArg)
	wantNoFind(t, "a greater disk", d, api.ErrNil)

	d = newDisk(t, api.MaxSectors)
	wantNoFind(t, "without a root", d, api.ErrBad)
	r := api.Root{Epoch: 9, Pages: api.MaxPages, Table: api.MaxPages - 1, Space: api.MaxPages - 2, Logical: api.MaxLogical}
	wantErr(t, "Write", Write(d, r), api.OK)
	wantFind(t, "Write", d, r)
	r.Pages++
	wantErr(t, "above it", Write(d, r), api.ErrArg)
}

// Sectors behind the last whole page are none of the disk's pages.
func TestPagesAreWholeOnes(t *testing.T) {
	for _, sectors := range []int{64, 65, 71, 72, 79, 80} {
		d := newDisk(t, sectors)
		for pages := uint64(7); pages <= 12; pages++ {
			r := api.Root{Epoch: pages, Pages: pages}
			want := api.ErrArg
			if pages == uint64(sectors/8) {
				want = api.OK
			}
			wantErr(t, sectors, Write(d, r), want)
		}
		whole := uint64(sectors / 8)
		wantFind(t, sectors, d, api.Root{Epoch: whole, Pages: whole})
	}
}

func TestWrite(t *testing.T) {
	for _, epoch := range []uint64{1, 2, 3, 1 << 32, 1<<32 + 1, math.MaxUint64} {
		d := diskOf(t, plain(2, 8*size))
		wantErr(t, epoch, Write(d, some(epoch)), api.OK)
		first := int(epoch%2) * 8
		want := []int{first, first + 1, first + 2, first + 3, first + 4, first + 5, first + 6, first + 7}
		if got := d.Cached(); !slices.Equal(got, want) {
			t.Errorf("Epoch %d: sectors %v are written, want %v", epoch, got, want)
		}
		if !bytes.Equal(d.Image(), plain(2, 8*size)) {
			t.Errorf("Epoch %d: it is flushed", epoch)
		}
		wantFind(t, epoch, d, some(epoch))
		wantErr(t, epoch, d.Flush(), api.OK)
		image := plain(2, 8*size)
		copy(image[first*512:], laidOf(some(epoch)))
		if !bytes.Equal(d.Image(), image) {
			t.Errorf("Epoch %d: another image", epoch)
		}
		wantFind(t, epoch, d, some(epoch))
	}
}

func TestWriteOfWhatMayNotBe(t *testing.T) {
	d := diskOf(t, slices.Concat(laidOf(some(2)), laidOf(some(1)), make([]byte, 6*size)))
	image := d.Image()
	wrong := []api.Root{
		{}, some(0), {Epoch: 3}, {Epoch: 3, Pages: 7}, {Epoch: 3, Pages: 9}, {Epoch: 3, Pages: 4096}, {Epoch: 3, Pages: 4097}, {Epoch: 3, Pages: 1<<32 + 8},
		{Epoch: 3, Pages: 8, Table: 1}, {Epoch: 3, Pages: 8, Table: 8}, {Epoch: 3, Pages: 8, Space: 1}, {Epoch: 3, Pages: 8, Space: 8}, {Epoch: 3, Pages: 8, Logical: 65537},
	}
	for _, r := range wrong {
		wantErr(t, r, Write(d, r), api.ErrArg)
		// What is refused is no operation: a fault waits on.
		d.Fail(0)
		wantErr(t, r, Write(d, r), api.ErrArg)
		wantErr(t, r, Write(d, some(3)), api.ErrIO)
	}
	if len(d.Cached()) != 0 || !bytes.Equal(d.Image(), image) {
		t.Error("it is written")
	}
	wantFind(t, "behind them", d, some(2))
}

func TestFindOfEitherAndBoth(t *testing.T) {
	noughts := make([]byte, size)
	for _, x := range []struct {
		about         string
		first, second []byte
		want          uint64
	}{
		{"none", noughts, noughts, 0},
		{"no pages", plain(3, size), plain(4, size), 0},
		{"0 alone", laidOf(some(2)), noughts, 2},
		{"1 alone", noughts, laidOf(some(1)), 1},
		{"0 alone, beside no page", laidOf(some(2)), plain(4, size), 2},
		{"1 alone, beside no page", plain(3, size), laidOf(some(1)), 1},
		{"0 is greater", laidOf(some(4)), laidOf(some(3)), 4},
		{"1 is greater", laidOf(some(4)), laidOf(some(5)), 5},
		{"0 is far greater", laidOf(some(1 << 40)), laidOf(some(1<<32 + 1)), 1 << 40},
		{"1 is the greatest", laidOf(some(math.MaxUint64 - 1)), laidOf(some(math.MaxUint64)), math.MaxUint64},
		{"0 of a lesser Number", laidOf(some(1 << 32)), laidOf(some(1<<32 - 1)), 1 << 32},
		{"0 of another slot", laidOf(some(9)), laidOf(some(1)), 1},
		{"1 of another slot", laidOf(some(2)), laidOf(some(8)), 2},
		{"both of another slot", laidOf(some(1)), laidOf(some(2)), 0},
		{"0 of another slot, alone", laidOf(some(9)), noughts, 0},
		{"1 of another slot, alone", noughts, laidOf(some(8)), 0},
		{"0 may not be", laidOf(some(0)), laidOf(some(1)), 1},
		{"0 may not be, alone", laidOf(some(0)), noughts, 0},
	} {
		d := slotsOf(t, 8, x.first, x.second)
		if x.want == 0 {
			wantNoFind(t, x.about, d, api.ErrBad)
			continue
		}
		wantFind(t, x.about, d, some(x.want))
	}
}

// A root of another disk's Pages does not count, however great its Epoch is.
func TestFindOfAnotherDisksRoot(t *testing.T) {
	noughts := make([]byte, size)
	for _, pages := range []uint64{9, 16, 4095, 4096} {
		odd, even := some(101), some(102)
		odd.Pages, even.Pages = pages, pages
		wantFind(t, pages, slotsOf(t, 8, laidOf(even), laidOf(some(1))), some(1))
		wantFind(t, pages, slotsOf(t, 8, laidOf(some(2)), laidOf(odd)), some(2))
		wantNoFind(t, pages, slotsOf(t, 8, laidOf(even), laidOf(odd)), api.ErrBad)
		wantNoFind(t, pages, slotsOf(t, 8, laidOf(even), noughts), api.ErrBad)
		wantNoFind(t, pages, slotsOf(t, 8, noughts, laidOf(odd)), api.ErrBad)
		wantFind(t, pages, slotsOf(t, int(pages), laidOf(even), laidOf(some(103))), even)
	}
	// A lesser disk's root on a greater one.
	wantNoFind(t, "fewer", slotsOf(t, 9, laidOf(some(2)), laidOf(some(1))), api.ErrBad)
}

// Roots elsewhere than in the slots are not looked at.
func TestFindLooksAtTheSlotsAlone(t *testing.T) {
	rest := slices.Concat(laidOf(some(6)), laidOf(some(7)), laidOf(some(8)), laidOf(some(9)), make([]byte, 2*size))
	wantNoFind(t, "elsewhere", diskOf(t, slices.Concat(make([]byte, 2*size), rest)), api.ErrBad)
	wantFind(t, "elsewhere", diskOf(t, slices.Concat(laidOf(some(2)), laidOf(some(1)), rest)), some(2))
}

func TestFindReadsTheCache(t *testing.T) {
	d := slotsOf(t, 8, laidOf(some(2)), laidOf(some(1)))
	wantErr(t, "Write", Write(d, some(3)), api.OK)
	cached := d.Cached()
	wantFind(t, "Write", d, some(3))
	if !slices.Equal(d.Cached(), cached) {
		t.Error("Find writes or flushes")
	}
	wantErr(t, "a crash", d.Crash(api.Crash{Torn: -1}), api.OK)
	wantFind(t, "a crash", d, some(2))
}

// behind tells that so many operations are done ahead of the fault.
func behind(t *testing.T, about any, d *sector.Disk, n int) {
	t.Helper()
	for range n {
		if _, err := d.Read(20); err != api.OK {
			t.Errorf("%v: the fault came too early", about)
		}
	}
	wantErr(t, about, d.Flush(), api.ErrIO)
}

func TestFaultInFind(t *testing.T) {
	noughts := make([]byte, size)
	for after := range 20 {
		for i, d := range []*sector.Disk{
			slotsOf(t, 8, laidOf(some(2)), laidOf(some(1))),
			slotsOf(t, 8, laidOf(some(2)), noughts),
			slotsOf(t, 8, noughts, laidOf(some(1))),
			slotsOf(t, 8, noughts, noughts),
		} {
			wanted := func() {
				if want := []uint64{2, 2, 1, 0}[i]; want > 0 {
					wantFind(t, after, d, some(want))
					return
				}
				wantNoFind(t, after, d, api.ErrBad)
			}
			d.Fail(after)
			if after < 16 {
				// Whatever the other slot has: what could not be loaded might have been the one that counts.
				wantNoFind(t, after, d, api.ErrIO)
				wanted()
				continue
			}
			wanted()
			behind(t, after, d, after-16)
		}
	}
}

func TestFaultInWrite(t *testing.T) {
	for after := range 12 {
		d := slotsOf(t, 8, laidOf(some(2)), laidOf(some(1)))
		d.Fail(after)
		want, written := api.OK, []int{8, 9, 10, 11, 12, 13, 14, 15}
		if after < 8 {
			want, written = api.ErrIO, written[:after]
		}
		wantErr(t, after, Write(d, some(3)), want)
		if got := d.Cached(); !slices.Equal(got, written) {
			t.Errorf("%d: sectors %v are written, want %v", after, got, written)
		}
		if after >= 8 {
			behind(t, after, d, after-8)
			wantFind(t, after, d, some(3))
			continue
		}
		found, err := Find(d)
		wantErr(t, after, err, api.OK)
		// The first sector has all the numbers: with it alone it is the root whole, its other sectors being noughts.
		if whole := after > 0; whole != (found == some(3)) || !whole != (found == some(2)) {
			t.Errorf("%d: Find tells %v", after, found)
		}
		wantErr(t, after, Write(d, some(3)), api.OK)
		wantFind(t, after, d, some(3))
	}
}

// The arguments are looked at ahead of the disk's sectors: a fault waits on.
func TestWrongDiskLeavesTheFault(t *testing.T) {
	d := newDisk(t, 63)
	d.Fail(0)
	wantNoFind(t, "too small", d, api.ErrArg)
	wantErr(t, "too small", Write(d, some(1)), api.ErrArg)
	wantErr(t, "the fault", d.Flush(), api.ErrIO)
}

// P6.3

func TestReadOfBytesIsTheRoot(t *testing.T) {
	edges := []uint64{0, 1, 2, 7, 8, 9, 255, 4095, 4096, 4097, 65535, 65536, 65537, 1 << 32, math.MaxUint64}
	read := 0
	for i := range uint64(20000) {
		l := make([]uint64, 9)
		for at, x := range plain(i, 9) {
			l[at] = edges[int(x)%len(edges)]
		}
		if i%2 == 0 {
			// Else hardly one of them may be.
			l[0], l[1], l[2], l[3], l[4] = l[0]|1, 8+l[1]%4089, l[2]%4096, l[3]%4096, l[4]%65537
		}
		r := rootOf(l)
		b, err := Bytes(r)
		if mayBe(r) != (err == api.OK) || err != Check(r) {
			t.Fatalf("%v: error %d", r, err)
		}
		if err != api.OK {
			wantNoRead(t, r, laidOf(r))
			continue
		}
		read++
		wantRead(t, r, b, r)
		if !bytes.Equal(b, laidOf(r)) {
			t.Fatalf("%v: other bytes than the chapter's", r)
		}
	}
	if read < 1000 {
		t.Errorf("%d roots alone may be", read)
	}
}

// held tells that b's bytes are refused, or are just those of the root that is read of them.
func held(t *testing.T, b []byte) {
	t.Helper()
	r, err := Read(b)
	if err != api.OK {
		wantNoRead(t, "refused", b)
		return
	}
	if again, err := Bytes(r); err != api.OK || !bytes.Equal(again, b) || !bytes.Equal(laidOf(r), b) {
		t.Fatalf("%v is read, but these are not its bytes: error %d", r, err)
	}
}

// Bytes of the first sector are changed, the sum fits.
func TestNoOtherBytesAreTheRoots(t *testing.T) {
	for i := range uint64(5000) {
		b := laidOf(some(i % 5))
		for _, x := range plain(i, int(i%4)) {
			b[int(x)%100] ^= 1 << (i % 8)
		}
		held(t, summed(b))
	}
}

// wantOneOf tells that Find tells one of both, and that the elder one's slot is as it was.
func wantOneOf(t *testing.T, about any, d *sector.Disk, elder, later api.Root) {
	t.Helper()
	if r, err := Find(d); err != api.OK || r != elder && r != later {
		t.Errorf("%v: Find: %v, error %d", about, r, err)
	}
	at := Slot(elder) * size
	if !bytes.Equal(d.Image()[at:at+size], laidOf(elder)) {
		t.Errorf("%v: the slot of the elder root is another one", about)
	}
}

// both answers a disk on which the elder root is flushed, over another one of the later one's slot, and the later one is written.
func both(t *testing.T, elder, later api.Root) *sector.Disk {
	t.Helper()
	d := newDisk(t, int(elder.Pages)*8)
	if elder.Epoch > 1 {
		former := elder
		former.Epoch--
		former.Meta = [4]uint64{11, 12, 13, 14}
		wantErr(t, "Write", Write(d, former), api.OK)
	}
	wantErr(t, "Write", Write(d, elder), api.OK)
	wantErr(t, "Flush", d.Flush(), api.OK)
	wantFind(t, "the elder", d, elder)
	wantErr(t, "Write", Write(d, later), api.OK)
	wantFind(t, "the later", d, later)
	return d
}

func TestCrashBehindWrite(t *testing.T) {
	for _, epoch := range []uint64{1, 2, 1<<32 - 1, 1 << 32, math.MaxUint64 - 1} {
		elder, later := some(epoch), some(epoch+1)
		later.Meta, later.Table, later.Logical = [4]uint64{21, 22, 23, 24}, 0, 300

		d := both(t, elder, later)
		wantErr(t, "a crash", d.Crash(api.Crash{Torn: -1}), api.OK)
		wantFind(t, "it keeps nothing", d, elder)

		d = both(t, elder, later)
		wantErr(t, "a crash", d.Crash(api.Crash{Keep: slices.Repeat([]bool{true}, 8), Torn: -1}), api.OK)
		wantFind(t, "it keeps all", d, later)
		wantOneOf(t, "it keeps all", d, elder, later)

		d = both(t, elder, later)
		wantErr(t, "Flush", d.Flush(), api.OK)
		wantErr(t, "a crash", d.Crash(api.Crash{Torn: -1}), api.OK)
		wantFind(t, "behind a flush", d, later)
		wantOneOf(t, "behind a flush", d, elder, later)

		for bits := range 256 {
			keep := make([]bool, 8)
			for i := range keep {
				keep[i] = bits>>i&1 == 1
			}
			d = both(t, elder, later)
			wantErr(t, "a crash", d.Crash(api.Crash{Keep: keep, Torn: -1}), api.OK)
			wantOneOf(t, bits, d, elder, later)
			// The numbers are all in the first sector: with it the later one is there, without it it is not.
			want := elder
			if keep[0] {
				want = later
			}
			wantFind(t, keep, d, want)
		}
	}
}

func TestTornRoot(t *testing.T) {
	for _, epoch := range []uint64{1, 2, 7} {
		elder, later := some(epoch), some(epoch+1)
		later.Meta[3] = 0x0101010101010101
		for place := range 9 {
			for n := -1; n <= 513; n++ {
				if place > 0 && n%64 > 1 {
					continue
				}
				for _, kept := range []bool{false, true} {
					d := both(t, elder, later)
					wantErr(t, "a crash", d.Crash(api.Crash{Keep: slices.Repeat([]bool{kept}, 8), Torn: place, Bytes: n}), api.OK)
					wantOneOf(t, n, d, elder, later)
					if place > 0 {
						continue
					}
					// Behind the 88th byte there are noughts alone.
					whole := n >= 88 && n <= 512 || kept && (n < 0 || n > 512)
					want := elder
					if whole {
						want = later
					}
					wantFind(t, n, d, want)
				}
			}
		}
	}
}

// A page of any bytes in the later one's slot leaves the elder one.
func TestSlotOfAnyBytes(t *testing.T) {
	for i := range uint64(200) {
		torn := laidOf(some(2))
		copy(torn[int(i*17)%size:], plain(i, size))
		wantFind(t, i, slotsOf(t, 8, torn, laidOf(some(1))), some(1))
		torn = laidOf(some(3))
		copy(torn[int(i*17)%size:], plain(i, size))
		wantFind(t, i, slotsOf(t, 8, laidOf(some(2)), torn), some(2))
	}
}

// Again and again: roots are written, one behind the other, with a flush, a fault or a crash between, and none that was flushed is lost.
func TestRootsAndCrashes(t *testing.T) {
	for i := range uint64(100) {
		d := newDisk(t, 64)
		wantErr(t, "Write", Write(d, some(1)), api.OK)
		wantErr(t, "Flush", d.Flush(), api.OK)
		counts := some(1)
		for _, x := range plain(300+i, 60) {
			later := some(counts.Epoch + 1)
			later.Meta[1] = uint64(x)
			d.Fail(int(x) % 12)
			err := Write(d, later)
			flushed := err == api.OK && d.Flush() == api.OK
			if x%5 != 0 || !flushed {
				keep := []bool{x&1 > 0, x&2 > 0, x&4 > 0, x&8 > 0, x&16 > 0, x&32 > 0, x&64 > 0, x&128 > 0}
				wantErr(t, "Crash", d.Crash(api.Crash{Keep: keep, Torn: int(x) % 9, Bytes: int(x) * 2}), api.OK)
			}
			d.Fail(-1)
			wantErr(t, "Flush", d.Flush(), api.OK)
			if flushed {
				wantFind(t, i, d, later)
				counts = later
				continue
			}
			wantOneOf(t, i, d, counts, later)
			counts, _ = Find(d)
		}
	}
}

// Rule 3 of the rules that hold everywhere.

// spoil changes an answer, and all of its spare room.
func spoil(b []byte) {
	b = b[:cap(b)]
	for i := range b {
		b[i] ^= 0x55
	}
}

func TestBytesAreNewMemory(t *testing.T) {
	r := some(3)
	b, _ := Bytes(r)
	again, _ := Bytes(r)
	spoil(b)
	if !bytes.Equal(again, laidOf(r)) || r != some(3) {
		t.Error("what Bytes answers shares memory")
	}
	b, _ = Bytes(r)
	if !bytes.Equal(b, laidOf(r)) {
		t.Error("what Bytes answered is kept")
	}
}

func TestReadLeavesItsBytes(t *testing.T) {
	for _, first := range [][]byte{laidOf(some(3)), laidOf(some(0)), plain(5, size)} {
		whole := append(slices.Clone(first), plain(6, size)...)
		was := slices.Clone(whole)
		r, err := Read(whole[:size])
		if !bytes.Equal(whole, was) {
			t.Error("Read changes what was handed in, or what stands behind it")
		}
		spoil(whole)
		if again, errAgain := Read(was[:size]); again != r || errAgain != err {
			t.Error("Read keeps what was handed in")
		}
	}
	// A byte less is none, whatever stands behind.
	wantNoRead(t, "spare room", laidOf(some(3))[:size-1])
	wantNoRead(t, "spare room", laidOf(some(3))[:88])
}

func TestRootsAreCopies(t *testing.T) {
	a, b := some(4), some(5)
	r, _ := Choose(a, b, true, true)
	r.Meta[0]++
	if b != some(5) || a != some(4) {
		t.Error("Choose shares memory")
	}
	d := slotsOf(t, 8, laidOf(some(2)), laidOf(some(1)))
	r, _ = Find(d)
	r.Meta[0]++
	wantFind(t, "changed", d, some(2))
	r = some(3)
	wantErr(t, "Write", Write(d, r), api.OK)
	r.Meta[0]++
	wantFind(t, "changed", d, some(3))
	wantErr(t, "Flush", d.Flush(), api.OK)
	wantFind(t, "flushed", d, some(3))
}

// Find changes nothing on the disk, whatever is there.
func TestFindLeavesTheDisk(t *testing.T) {
	for _, first := range [][]byte{laidOf(some(2)), laidOf(some(1)), plain(7, size), make([]byte, size)} {
		d := slotsOf(t, 8, first, first)
		image := d.Image()
		r, err := Find(d)
		again, errAgain := Find(d)
		if r != again || err != errAgain || len(d.Cached()) != 0 || !bytes.Equal(d.Image(), image) {
			t.Error("Find changes the disk")
		}
	}
}

// All calls end at all arguments.

func FuzzRoot(f *testing.F) {
	f.Add(uint64(1), uint64(8), uint64(2), uint64(3), uint64(4), uint64(5), uint16(0), byte(0), true)
	f.Add(uint64(0), uint64(7), uint64(1), uint64(8), uint64(65537), uint64(math.MaxUint64), uint16(20), byte(1), true)
	f.Add(uint64(math.MaxUint64), uint64(4096), uint64(4095), uint64(0), uint64(65536), uint64(0), uint16(100), byte(128), false)
	f.Fuzz(func(t *testing.T, epoch, pages, table, space, logical, meta uint64, at uint16, change byte, fits bool) {
		r := api.Root{Epoch: epoch, Pages: pages, Table: table, Space: space, Logical: logical, Meta: [4]uint64{meta, ^meta, meta << 32, meta >> 7}}
		b, err := Bytes(r)
		if mayBe(r) != (err == api.OK) || Check(r) != err {
			t.Fatalf("%v: error %d", r, err)
		}
		if err != api.OK {
			b = laidOf(r)
			wantNoRead(t, r, b)
		} else {
			wantRead(t, r, b, r)
		}
		b[int(at)%size] ^= change
		if fits {
			b = summed(b)
		}
		held(t, b)
		d := slotsOf(t, 8, b, b)
		found, err := Find(d)
		read, bad := Read(b)
		if counts := bad == api.OK && read.Pages == 8; counts != (err == api.OK) || counts && found != read {
			t.Fatalf("%v: Find: %v, error %d", read, found, err)
		}
		want := api.ErrArg
		if mayBe(r) && pages == 8 {
			want = api.OK
		}
		wantErr(t, r, Write(d, r), want)
	})
}
