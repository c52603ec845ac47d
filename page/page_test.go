package page

import (
	"bytes"
	"encoding/binary"
	"encoding/hex"
	"hash/crc32"
	"math"
	"slices"
	"testing"

	"tallyman/api"
	"tallyman/sector"
)

const (
	size = api.PageSize
	room = api.Room
)

// plain are bytes without a pattern, told by where they begin; the last one is no nought.
func plain(from uint64, n int) []byte {
	b := make([]byte, n)
	for i, w := 0, from*2+1; i < n; i++ {
		w = w*6364136223846793005 + 1442695040888963407
		b[i] = byte(w >> 56)
	}
	if n > 0 {
		b[n-1] |= 1
	}
	return b
}

// laid is a page as the chapter tells it, written apart from the program's own, by the library's words and sums.
func laid(kind byte, number uint32, body []byte) []byte {
	b := append([]byte{0x54, 0x4d, 1, kind}, make([]byte, size-4)...)
	binary.LittleEndian.PutUint32(b[4:], number)
	copy(b[16:], body)
	return summed(b)
}

// summed answers b's bytes with the sum that fits, whatever the others are.
func summed(b []byte) []byte {
	b = slices.Clone(b)
	clear(b[12:16])
	binary.LittleEndian.PutUint32(b[12:], crc32.Checksum(b, crc32.MakeTable(crc32.Castagnoli)))
	return b
}

func padded(body []byte) []byte {
	return append(slices.Clone(body), make([]byte, room-len(body))...)
}

func newDisk(t *testing.T, sectors int) *sector.Disk {
	t.Helper()
	d, err := sector.New(sectors)
	if err != api.OK {
		t.Fatalf("a disk of %d sectors: error %d", sectors, err)
	}
	return d
}

func diskOf(t *testing.T, b []byte) *sector.Disk {
	t.Helper()
	d, err := sector.Of(b)
	if err != api.OK {
		t.Fatalf("a disk of %d bytes: error %d", len(b), err)
	}
	return d
}

// noDisks are those that nobody made.
func noDisks() []*sector.Disk {
	return []*sector.Disk{nil, {}, new(sector.Disk)}
}

func wantErr(t *testing.T, about any, err, want api.Errno) {
	t.Helper()
	if err != want {
		t.Errorf("%v: error %d, want %d", about, err, want)
	}
}

func bytesOf(t *testing.T, p api.Page) []byte {
	t.Helper()
	b, err := Bytes(p)
	if err != api.OK || len(b) != size {
		t.Fatalf("Bytes of kind %d, number %d, %d bytes: %d bytes, error %d", p.Kind, p.Number, len(p.Body), len(b), err)
	}
	return b
}

func wantPage(t *testing.T, about any, b []byte, kind int, number uint32, body []byte) {
	t.Helper()
	p, err := Read(b)
	if err != api.OK || p.Kind != kind || p.Number != number || !bytes.Equal(p.Body, padded(body)) {
		t.Errorf("%v: kind %d, number %d, %d bytes, error %d; want kind %d, number %d", about, p.Kind, p.Number, len(p.Body), err, kind, number)
	}
	if got := Kind(b); got != kind {
		t.Errorf("%v: Kind %d, want %d", about, got, kind)
	}
}

func wantNone(t *testing.T, about any, b []byte) {
	t.Helper()
	p, err := Read(b)
	if err != api.ErrBad || p.Kind != 0 || p.Number != 0 || len(p.Body) != 0 {
		t.Errorf("%v: kind %d, number %d, %d bytes, error %d", about, p.Kind, p.Number, len(p.Body), err)
	}
	if kind := Kind(b); kind != 0 {
		t.Errorf("%v: Kind %d", about, kind)
	}
}

func wantLoad(t *testing.T, about any, d *sector.Disk, n int, want []byte) {
	t.Helper()
	if b, err := Load(d, n); err != api.OK || !bytes.Equal(b, want) {
		t.Errorf("%v: Load of %d: error %d, %d bytes, the same %v", about, n, err, len(b), bytes.Equal(b, want))
	}
}

func wantNoLoad(t *testing.T, about any, d *sector.Disk, n int, want api.Errno) {
	t.Helper()
	if b, err := Load(d, n); err != want || len(b) != 0 {
		t.Errorf("%v: Load of %d: error %d, %d bytes, want error %d", about, n, err, len(b), want)
	}
}

func wantCached(t *testing.T, about any, d *sector.Disk, want ...int) {
	t.Helper()
	if got := d.Cached(); !slices.Equal(got, want) {
		t.Errorf("%v: sectors %v are written, want %v", about, got, want)
	}
}

// The chapter's examples.

func TestExamples(t *testing.T) {
	b := bytesOf(t, api.Page{Kind: 6, Number: 258, Body: []byte("ab")})
	if got := hex.EncodeToString(b[:12]); got != "544d01060201000000000000" {
		t.Errorf("bytes 0 to 11: %s", got)
	}
	wantPage(t, "Read of it", b, 6, 258, []byte("ab"))
	if p, _ := Read(b); len(p.Body) != 4080 || p.Body[0] != 'a' || p.Body[1] != 'b' || slices.Max(p.Body[2:]) != 0 {
		t.Errorf("Body: %d bytes", len(p.Body))
	}
}

// P5.1

func numbers() []uint32 {
	return []uint32{0, 1, 127, 128, 255, 256, 258, 0x10000, 0x01020304, 0xdeadbeef, 1<<31 - 1, 1 << 31, math.MaxUint32 - 1, math.MaxUint32}
}

func bodies() [][]byte {
	return [][]byte{nil, {}, {0}, {7}, []byte("ab"), []byte("ab\x00\x00"), plain(1, 511), plain(2, 4000), plain(3, room-1), plain(4, room), make([]byte, room), append(make([]byte, room-1), 9)}
}

func TestBytes(t *testing.T) {
	for kind := 1; kind <= 7; kind++ {
		for _, number := range numbers() {
			for i, body := range bodies() {
				b := bytesOf(t, api.Page{Kind: kind, Number: number, Body: body})
				if !bytes.Equal(b, laid(byte(kind), number, body)) {
					t.Errorf("kind %d, number %d, body %d: % x..", kind, number, i, b[:20])
				}
			}
		}
	}
}

func TestBytesOfWhatMayNotBe(t *testing.T) {
	refused := func(about any, p api.Page) {
		t.Helper()
		if b, err := Bytes(p); err != api.ErrArg || len(b) != 0 {
			t.Errorf("%v: %d bytes, error %d", about, len(b), err)
		}
	}
	for _, kind := range []int{math.MinInt, -256, -7, -1, 0, 8, 9, 255, 256, 257, 256 + 6, 1<<32 + 1, math.MaxInt} {
		for _, body := range bodies() {
			refused(kind, api.Page{Kind: kind, Number: 1, Body: body})
		}
	}
	for kind := -1; kind <= 9; kind++ {
		for _, n := range []int{room + 1, size, size + 1, 2 * size} {
			refused(n, api.Page{Kind: kind, Body: make([]byte, n)})
			refused(n, api.Page{Kind: kind, Number: math.MaxUint32, Body: plain(5, n)})
		}
	}
	refused("the zero page", api.Page{})
}

func TestRead(t *testing.T) {
	for kind := 1; kind <= 7; kind++ {
		for _, number := range numbers() {
			for i, body := range bodies() {
				wantPage(t, i, laid(byte(kind), number, body), kind, number, body)
			}
		}
	}
}

func TestReadOfAnotherLength(t *testing.T) {
	b := laid(6, 258, plain(6, 2*size))
	behind := append(slices.Clone(b), make([]byte, size)...)
	for _, n := range []int{0, 1, 2, 3, 4, 11, 12, 15, 16, 17, 511, 512, 4079, 4080, 4094, 4095, 4097, 4112, 2 * size} {
		wantNone(t, n, behind[:n])
	}
	wantNone(t, "nil", nil)
	wantPage(t, "all of it", behind[:size], 6, 258, b[16:])
	// Shorter and longer rows whose sum fits.
	for _, n := range []int{16, 17, size - 1, size + 1} {
		wantNone(t, n, summed(behind[:n]))
	}
}

// Each header here has a sum that fits: what is wrong is the part itself.
func TestReadOfAnotherHeader(t *testing.T) {
	for _, at := range []int{0, 1, 2, 8, 9, 10, 11} {
		for x := range 256 {
			b := laid(3, 77, plain(7, room))
			if b[at] == byte(x) {
				continue
			}
			b[at] = byte(x)
			wantNone(t, at, summed(b))
		}
	}
	for x := range 256 {
		b := laid(byte(x), 77, plain(7, room))
		if x >= 1 && x <= 7 {
			wantPage(t, x, b, x, 77, b[16:])
			continue
		}
		wantNone(t, x, b)
	}
}

func TestReadOfAnotherSum(t *testing.T) {
	b := laid(2, 5, []byte("abc"))
	for at := 12; at < 16; at++ {
		for x := 1; x < 256; x++ {
			other := slices.Clone(b)
			other[at] ^= byte(x)
			wantNone(t, at, other)
		}
	}
	// Sums of this page by other rules: of all but the sum, without the header, with the sum's own bytes, the other way round.
	castagnoli := crc32.MakeTable(crc32.Castagnoli)
	right := binary.LittleEndian.Uint32(b[12:])
	turned := slices.Clone(b)
	slices.Reverse(turned[12:16])
	wantNone(t, "turned", turned)
	for i, sum := range []uint32{
		0,
		^right,
		crc32.Checksum(append(slices.Clone(b[:12]), b[16:]...), castagnoli),
		crc32.Checksum(b[16:], castagnoli),
		crc32.Checksum(b, castagnoli),
		crc32.ChecksumIEEE(append(append(slices.Clone(b[:12]), 0, 0, 0, 0), b[16:]...)),
	} {
		other := slices.Clone(b)
		binary.LittleEndian.PutUint32(other[12:], sum)
		wantNone(t, i, other)
	}
}

func TestReadOfNoPage(t *testing.T) {
	for _, x := range []byte{0, 1, 0x54, 0xff} {
		wantNone(t, x, bytes.Repeat([]byte{x}, size))
		wantNone(t, x, summed(bytes.Repeat([]byte{x}, size)))
	}
	for i := range uint64(20) {
		wantNone(t, i, plain(i, size))
	}
}

func TestSame(t *testing.T) {
	base := api.Page{Kind: 6, Number: 258, Body: []byte("a\x00b")}
	for _, x := range []struct {
		about string
		p     api.Page
		want  bool
	}{
		{"itself", base, true},
		{"noughts at the end", api.Page{Kind: 6, Number: 258, Body: []byte("a\x00b\x00\x00")}, true},
		{"noughts up to Room", api.Page{Kind: 6, Number: 258, Body: padded([]byte("a\x00b"))}, true},
		{"another kind", api.Page{Kind: 5, Number: 258, Body: []byte("a\x00b")}, false},
		{"another number", api.Page{Kind: 6, Number: 259, Body: []byte("a\x00b")}, false},
		{"a number that is greater by 2^31", api.Page{Kind: 6, Number: 258 + 1<<31, Body: []byte("a\x00b")}, false},
		{"a kind that is greater by 256", api.Page{Kind: 262, Number: 258, Body: []byte("a\x00b")}, false},
		{"another body", api.Page{Kind: 6, Number: 258, Body: []byte("a\x00c")}, false},
		{"one byte more", api.Page{Kind: 6, Number: 258, Body: []byte("a\x00b\x01")}, false},
		{"one byte more behind noughts", api.Page{Kind: 6, Number: 258, Body: []byte("a\x00b\x00\x00\x01")}, false},
		{"one byte less", api.Page{Kind: 6, Number: 258, Body: []byte("a\x00")}, false},
		{"no nought within", api.Page{Kind: 6, Number: 258, Body: []byte("ab")}, false},
		{"a nought ahead", api.Page{Kind: 6, Number: 258, Body: []byte("\x00a\x00b")}, false},
		{"no body", api.Page{Kind: 6, Number: 258}, false},
		{"a text's nought", api.Page{Kind: 6, Number: 258, Body: []byte("a\x00b0")}, false},
		{"the last byte another one", api.Page{Kind: 6, Number: 258, Body: append(padded([]byte("a\x00b"))[:room-1], 1)}, false},
	} {
		if Same(base, x.p) != x.want || Same(x.p, base) != x.want {
			t.Errorf("%s: %v and %v, want %v", x.about, Same(base, x.p), Same(x.p, base), x.want)
		}
		if !Same(x.p, x.p) {
			t.Errorf("%s: it is not the same as itself", x.about)
		}
	}
}

func TestSameOfNoBody(t *testing.T) {
	l := []api.Page{{Kind: 1}, {Kind: 1, Body: []byte{}}, {Kind: 1, Body: []byte{0}}, {Kind: 1, Body: make([]byte, room)}}
	for i, a := range l {
		for j, b := range l {
			if !Same(a, b) {
				t.Errorf("%d and %d", i, j)
			}
			b.Kind = 2
			if Same(a, b) {
				t.Errorf("%d and %d of another kind", i, j)
			}
		}
	}
	if !Same(api.Page{}, api.Page{}) {
		t.Error("two zero pages")
	}
}

// Whether pages that may be are the same, their bytes tell too.
func TestSameIsOfTheSameBytes(t *testing.T) {
	var l []api.Page
	for kind := 1; kind <= 3; kind++ {
		for _, number := range []uint32{0, 1, math.MaxUint32} {
			for _, body := range bodies() {
				l = append(l, api.Page{Kind: kind, Number: number, Body: body})
			}
		}
	}
	for i, a := range l {
		first := bytesOf(t, a)
		for j, b := range l {
			if got, want := Same(a, b), bytes.Equal(first, bytesOf(t, b)); got != want {
				t.Fatalf("%d and %d: %v, want %v", i, j, got, want)
			}
		}
	}
}

// P5.2

func TestPages(t *testing.T) {
	for _, sectors := range []int{1, 7, 8, 9, 15, 16, 17, 80, api.MaxSectors - 1, api.MaxSectors} {
		if got := Pages(newDisk(t, sectors)); got != sectors/8 {
			t.Errorf("of %d sectors: %d", sectors, got)
		}
	}
	for _, d := range noDisks() {
		if Pages(d) != 0 {
			t.Errorf("of no disk: %d", Pages(d))
		}
	}
}

func TestLoadAndSaveOfNoDisk(t *testing.T) {
	for _, d := range noDisks() {
		for _, n := range []int{math.MinInt, -1, 0, 1, math.MaxInt} {
			wantNoLoad(t, "no disk", d, n, api.ErrNil)
			for _, long := range []int{0, size - 1, size, size + 1} {
				wantErr(t, n, Save(d, n, make([]byte, long)), api.ErrNil)
			}
			wantErr(t, n, Save(d, n, nil), api.ErrNil)
		}
	}
}

func TestLoad(t *testing.T) {
	image := plain(8, 3*size+7*512)
	d := diskOf(t, image)
	for range 2 {
		for n := range 3 {
			wantLoad(t, "an image", d, n, image[n*size:(n+1)*size])
		}
	}
	row := bytes.Repeat([]byte{9}, 512)
	for _, at := range []int{8, 11, 15} {
		d.Write(at, row)
		copy(image[at*512:], row)
	}
	wantLoad(t, "the page ahead", d, 0, image[:size])
	wantLoad(t, "sectors of the cache", d, 1, image[size:2*size])
	wantLoad(t, "the page behind", d, 2, image[2*size:3*size])
	wantCached(t, "Load", d, 8, 11, 15)
}

func TestSave(t *testing.T) {
	image := plain(9, 3*size+512)
	d := diskOf(t, image)
	b := bytesOf(t, api.Page{Kind: 7, Number: 1, Body: plain(10, room)})
	wantErr(t, "Save", Save(d, 1, b), api.OK)
	wantCached(t, "Save", d, 8, 9, 10, 11, 12, 13, 14, 15)
	if !bytes.Equal(d.Image(), image) {
		t.Error("Save went past the cache")
	}
	wantLoad(t, "Save", d, 1, b)
	wantErr(t, "any bytes", Save(d, 2, plain(11, size)), api.OK)
	wantErr(t, "noughts", Save(d, 0, make([]byte, size)), api.OK)
	wantErr(t, "Flush", d.Flush(), api.OK)
	want := slices.Concat(make([]byte, size), b, plain(11, size), image[3*size:])
	if !bytes.Equal(d.Image(), want) {
		t.Error("what was saved is not what the disk has")
	}
	wantErr(t, "again", Save(d, 1, plain(12, size)), api.OK)
	wantLoad(t, "again", d, 1, plain(12, size))
}

func TestWrongArguments(t *testing.T) {
	for _, sectors := range []int{1, 7, 8, 9, 15, 16, 23} {
		image := plain(13, sectors*512)
		d := diskOf(t, image)
		pages := sectors / 8
		for _, n := range []int{math.MinInt, math.MinInt / 8, -pages, -1, pages, pages + 1, sectors, 1 << 61, 1<<61 + 1, math.MaxInt/8 + 1, math.MaxInt} {
			if n == 0 {
				continue
			}
			wantNoLoad(t, sectors, d, n, api.ErrArg)
			wantErr(t, n, Save(d, n, make([]byte, size)), api.ErrArg)
			wantErr(t, n, Save(d, n, nil), api.ErrArg)
		}
		for _, long := range []int{0, 1, 512, size - 512, size - 1, size + 1, 2 * size} {
			wantErr(t, long, Save(d, 0, make([]byte, long)), api.ErrArg)
		}
		wantErr(t, "nil", Save(d, 0, nil), api.ErrArg)
		wantCached(t, sectors, d)
		if !bytes.Equal(d.Image(), image) {
			t.Errorf("%d sectors: the disk is changed", sectors)
		}
	}
}

// What is refused is no operation: a fault waits on.
func TestWrongArgumentsLeaveTheFault(t *testing.T) {
	d := newDisk(t, 17)
	d.Fail(0)
	wantNoLoad(t, "a fault waits", d, 2, api.ErrArg)
	wantNoLoad(t, "a fault waits", d, -1, api.ErrArg)
	wantErr(t, "a page that is none", Save(d, 2, make([]byte, size)), api.ErrArg)
	wantErr(t, "too few bytes", Save(d, 1, make([]byte, size-1)), api.ErrArg)
	if Pages(d) != 2 {
		t.Errorf("%d pages", Pages(d))
	}
	wantNoLoad(t, "the fault", d, 1, api.ErrIO)
	wantLoad(t, "behind the fault", d, 1, make([]byte, size))
}

func TestFaultInLoad(t *testing.T) {
	image := plain(14, 2*size)
	for after := range 20 {
		d := diskOf(t, image)
		d.Fail(after)
		if after < 8 {
			wantNoLoad(t, after, d, 1, api.ErrIO)
			wantLoad(t, after, d, 1, image[size:])
		} else {
			wantLoad(t, after, d, 1, image[size:])
			// Eight operations were done: so many fewer are ahead of the fault.
			for i := range after - 8 {
				if _, err := d.Read(0); err != api.OK {
					t.Errorf("%d: Read %d: error %d", after, i, err)
				}
			}
			wantErr(t, after, d.Flush(), api.ErrIO)
		}
		wantCached(t, after, d)
	}
}

func TestFaultInSave(t *testing.T) {
	image, b := plain(15, 3*size), plain(16, size)
	for after := range 20 {
		d := diskOf(t, image)
		d.Fail(after)
		want, written := api.OK, []int{8, 9, 10, 11, 12, 13, 14, 15}
		if after < 8 {
			want, written = api.ErrIO, written[:after]
		}
		wantErr(t, after, Save(d, 1, b), want)
		wantCached(t, after, d, written...)
		if after >= 8 {
			for i := range after - 8 {
				if _, err := d.Read(0); err != api.OK {
					t.Errorf("%d: Read %d: error %d", after, i, err)
				}
			}
			wantErr(t, after, d.Flush(), api.ErrIO)
		}
		n := len(written) * 512
		wantLoad(t, after, d, 1, append(slices.Clone(b[:n]), image[size+n:2*size]...))
		wantLoad(t, after, d, 0, image[:size])
		wantLoad(t, after, d, 2, image[2*size:])
		wantErr(t, after, Save(d, 1, b), api.OK)
		wantLoad(t, after, d, 1, b)
	}
}

func TestWholeDisk(t *testing.T) {
	d := newDisk(t, api.MaxSectors)
	last := api.MaxSectors/8 - 1
	for _, n := range []int{0, 1, last - 1, last} {
		wantErr(t, n, Save(d, n, plain(uint64(n), size)), api.OK)
	}
	for _, n := range []int{0, 1, last - 1, last} {
		wantLoad(t, n, d, n, plain(uint64(n), size))
	}
	wantNoLoad(t, "behind the last", d, last+1, api.ErrArg)
}

// P5.3

func TestReadOfBytesIsThePage(t *testing.T) {
	for kind := 1; kind <= 7; kind++ {
		for _, number := range numbers() {
			for i, body := range bodies() {
				p := api.Page{Kind: kind, Number: number, Body: body}
				b := bytesOf(t, p)
				wantPage(t, i, b, kind, number, body)
				got, _ := Read(b)
				if !Same(p, got) || !bytes.Equal(bytesOf(t, got), b) {
					t.Errorf("kind %d, number %d, body %d: another page", kind, number, i)
				}
			}
		}
	}
}

// held tells that b's bytes are refused, or are just those of the page that is read of them.
func held(t *testing.T, b []byte) {
	t.Helper()
	p, err := Read(b)
	if err != api.OK {
		wantNone(t, "refused", b)
		return
	}
	if again, err := Bytes(p); err != api.OK || !bytes.Equal(again, b) {
		t.Fatalf("% x.. is read, but is not the page's bytes: error %d", b[:16], err)
	}
	if Kind(b) != p.Kind || len(p.Body) != room {
		t.Fatalf("% x..: Kind %d and %d, %d bytes", b[:16], Kind(b), p.Kind, len(p.Body))
	}
}

func TestNoOtherBytesAreThePage(t *testing.T) {
	for i := range uint64(2000) {
		b := laid(byte(i%9), uint32(i*2654435761), plain(i, int(i*31%(room+1))))
		for _, x := range plain(i, int(i%3)) {
			b[int(x)%24] ^= 1 << (i % 8)
			b = summed(b)
		}
		held(t, b)
	}
}

// Every byte, all its other values at some places, and a single bit at each.
func TestOneByteAlone(t *testing.T) {
	for _, b := range [][]byte{laid(6, 258, []byte("ab")), laid(1, 0, nil), laid(7, math.MaxUint32, plain(17, room))} {
		for at := range b {
			was := b[at]
			b[at] ^= 1 << (at % 8)
			wantNone(t, at, b)
			b[at] = ^was
			wantNone(t, at, b)
			b[at] = was
		}
		for _, at := range []int{0, 1, 2, 3, 4, 5, 6, 7, 8, 11, 12, 15, 16, 511, 512, 4094, 4095} {
			was := b[at]
			for x := 1; x < 256; x++ {
				b[at] = was ^ byte(x)
				wantNone(t, at, b)
			}
			b[at] = was
		}
		if Kind(b) == 0 {
			t.Error("the page itself is not read")
		}
	}
}

func TestTornPage(t *testing.T) {
	former := laid(5, 1, plain(18, room))
	latest := slices.Clone(former)
	latest[16+2000] ^= 0x80
	latest = summed(latest)
	for place := range 8 {
		for _, n := range []int{0, 1, 13, 14, 15, 256, 480, 511, 512} {
			d := diskOf(t, slices.Concat(former, former))
			wantErr(t, "Save", Save(d, 1, latest), api.OK)
			keep := slices.Repeat([]bool{true}, place)
			wantErr(t, "Crash", d.Crash(api.Crash{Keep: keep, Torn: place, Bytes: n}), api.OK)
			b, err := Load(d, 1)
			wantErr(t, "Load", err, api.OK)
			if bytes.Equal(b, former) || bytes.Equal(b, latest) {
				held(t, b)
				continue
			}
			wantNone(t, place*512+n, b)
		}
	}
}

// A page of which one sector came and the others did not is another page's beginning and this one's rest.
func TestPageOfTwoPages(t *testing.T) {
	a, b := laid(6, 3, plain(19, room)), laid(6, 3, plain(20, room))
	for cut := 512; cut < size; cut += 512 {
		wantNone(t, cut, slices.Concat(a[:cut], b[cut:]))
		wantNone(t, cut, slices.Concat(b[:cut], a[cut:]))
		wantNone(t, cut, slices.Concat(a[:cut], make([]byte, size-cut)))
	}
}

// Rule 3 of the rules that hold everywhere.

// spoil changes an answer, and all of its spare room.
func spoil(b []byte) {
	b = b[:cap(b)]
	for i := range b {
		b[i] ^= 0x55
	}
}

func TestWhatIsHandedInIsLeftAsItIs(t *testing.T) {
	whole := plain(21, 3*size)
	for _, n := range []int{0, 2, room - 1, room} {
		b := bytesOf(t, api.Page{Kind: 2, Number: 9, Body: whole[:n]})
		if !bytes.Equal(b, laid(2, 9, plain(21, 3*size)[:n])) {
			t.Errorf("Bytes reads %d bytes and more", n)
		}
		spoil(b)
	}
	copy(whole, laid(2, 9, whole[size:2*size-16]))
	was := slices.Clone(whole)
	if p, err := Read(whole[:size]); err != api.OK {
		t.Errorf("Read: error %d", err)
	} else {
		spoil(p.Body)
	}
	Kind(whole[:size])
	Same(api.Page{Body: whole[:8]}, api.Page{Body: whole[:9]})
	d := newDisk(t, 8)
	wantErr(t, "Save", Save(d, 0, whole[:size]), api.OK)
	wantErr(t, "Flush", d.Flush(), api.OK)
	if !bytes.Equal(whole, was) {
		t.Error("what was handed in, or what stands behind it, is changed")
	}
	whole[100] ^= 1
	wantLoad(t, "Save", d, 0, was[:size])
}

func TestSpareRoomIsNotRead(t *testing.T) {
	a, b := []byte("ab\x00cd"), []byte("ab\x00ce")
	if !Same(api.Page{Body: a[:3]}, api.Page{Body: b[:2]}) || !Same(api.Page{Body: a[:4]}, api.Page{Body: b[:4]}) {
		t.Error("Same reads behind the body")
	}
	page := append(laid(1, 1, nil), 1, 2, 3)
	wantPage(t, "spare room", page[:size], 1, 1, nil)
	wantNone(t, "a byte less", page[:size-1])
}

func TestAnswersAreNewMemory(t *testing.T) {
	body := plain(22, room)
	want := laid(4, 6, body)
	p := api.Page{Kind: 4, Number: 6, Body: body}
	b, again := bytesOf(t, p), bytesOf(t, p)
	spoil(b)
	if !bytes.Equal(again, want) || !bytes.Equal(body, plain(22, room)) {
		t.Error("what Bytes answers shares memory")
	}
	read, _ := Read(want)
	readAgain, _ := Read(want)
	spoil(read.Body)
	if !bytes.Equal(readAgain.Body, body) || !bytes.Equal(want, laid(4, 6, body)) {
		t.Error("what Read answers shares memory")
	}
	readAgain, _ = Read(again)
	spoil(again)
	if !bytes.Equal(readAgain.Body, body) {
		t.Error("what Read answers is changed later")
	}
	d := newDisk(t, 16)
	wantErr(t, "Save", Save(d, 1, want), api.OK)
	for range 2 {
		loaded, _ := Load(d, 1)
		loadedAgain, _ := Load(d, 1)
		spoil(loaded)
		if !bytes.Equal(loadedAgain, want) {
			t.Error("what Load answers shares memory")
		}
		wantLoad(t, "spoilt", d, 1, want)
		wantErr(t, "Flush", d.Flush(), api.OK)
	}
	kept, _ := Load(d, 1)
	wantErr(t, "Save", Save(d, 1, make([]byte, size)), api.OK)
	if !bytes.Equal(kept, want) {
		t.Error("what Load answered is changed later")
	}
}

// Disks and pages together, held against plain rows.

func TestScripts(t *testing.T) {
	for i := range uint64(40) {
		play(t, int(i%30)+1, plain(200+i, 300))
	}
}

// play loads, saves and lays faults as the bytes tell, and holds every page against a plain row's.
func play(t *testing.T, sectors int, script []byte) {
	t.Helper()
	d, rows, fault := newDisk(t, sectors), make([]byte, sectors*512), -1
	// may tells how many of a page's sectors are done.
	may := func() int {
		done := 8
		if fault >= 0 && fault < 8 {
			done, fault = fault, -1
		}
		if fault >= 8 {
			fault -= 8
		}
		return done
	}
	for ; len(script) >= 3; script = script[3:] {
		n := int(script[1])%(sectors/8+2) - 1
		is := n >= 0 && (n+1)*8 <= sectors
		want := api.ErrArg
		switch script[0] % 3 {
		case 0:
			var row []byte
			if is {
				want, row = api.ErrIO, nil
				if may() == 8 {
					want, row = api.OK, rows[n*size:(n+1)*size]
				}
			}
			if b, err := Load(d, n); err != want || !bytes.Equal(b, row) {
				t.Fatalf("Load of %d: error %d, want %d, %d bytes", n, err, want, len(b))
			}
		case 1:
			b := plain(uint64(script[2]), size+int(script[2])%8/7)
			if is && len(b) == size {
				done := may()
				if want = api.OK; done < 8 {
					want = api.ErrIO
				}
				copy(rows[n*size:], b[:done*512])
			}
			wantErr(t, "Save", Save(d, n, b), want)
		default:
			fault = int(script[2]) % 24
			wantErr(t, "Fail", d.Fail(fault), api.OK)
		}
	}
	d.Fail(-1)
	wantErr(t, "Flush", d.Flush(), api.OK)
	if !bytes.Equal(d.Image(), rows) {
		t.Fatal("another image")
	}
}

func FuzzRead(f *testing.F) {
	f.Add(byte(6), uint32(258), []byte("ab"), uint16(0), byte(0), true)
	f.Add(byte(8), uint32(0), []byte{}, uint16(3), byte(1), true)
	f.Add(byte(1), uint32(7), plain(1, room+1), uint16(4095), byte(128), false)
	f.Fuzz(func(t *testing.T, kind byte, number uint32, body []byte, at uint16, change byte, fits bool) {
		b, err := Bytes(api.Page{Kind: int(kind), Number: number, Body: body})
		if may := kind >= 1 && kind <= 7 && len(body) <= room; may != (err == api.OK) {
			t.Fatalf("kind %d, %d bytes: error %d", kind, len(body), err)
		}
		held(t, body)
		if err != api.OK {
			return
		}
		wantPage(t, "fuzz", b, int(kind), number, body)
		b[int(at)%size] ^= change
		if change != 0 {
			wantNone(t, at, b)
		}
		if fits {
			b = summed(b)
		}
		held(t, b)
	})
}
