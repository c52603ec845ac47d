package octet

import (
	"bytes"
	"fmt"
	"math"
	"testing"

	"tallyman/api"
)

// numbers are numbers of every size, at both ends of each, with their bytes.
var numbers = []struct {
	n    uint64
	want string
}{
	{0, "\x00"},
	{1, "\x01"},
	{0x7f, "\x7f"},
	{0x80, "\x80\x01"},
	{0x12c, "\xac\x02"},
	{1<<14 - 1, "\xff\x7f"},
	{1 << 14, "\x80\x80\x01"},
	{1<<21 - 1, "\xff\xff\x7f"},
	{1 << 21, "\x80\x80\x80\x01"},
	{1 << 28, "\x80\x80\x80\x80\x01"},
	{1 << 35, "\x80\x80\x80\x80\x80\x01"},
	{1 << 42, "\x80\x80\x80\x80\x80\x80\x01"},
	{1 << 49, "\x80\x80\x80\x80\x80\x80\x80\x01"},
	{1 << 56, "\x80\x80\x80\x80\x80\x80\x80\x80\x01"},
	{1<<63 - 1, "\xff\xff\xff\xff\xff\xff\xff\xff\x7f"},
	{1 << 63, "\x80\x80\x80\x80\x80\x80\x80\x80\x80\x01"},
	{math.MaxUint64, "\xff\xff\xff\xff\xff\xff\xff\xff\xff\x01"},
}

// badNumbers do not stand whole, or have bytes that no number has.
var badNumbers = []struct {
	b   string
	err api.Errno
}{
	{"", api.ErrMore},
	{"\x80", api.ErrMore},
	{"\xff\xff\xff", api.ErrMore},
	{"\xff\xff\xff\xff\xff\xff\xff\xff\xff", api.ErrMore},
	{"\x80\x00", api.ErrBad},
	{"\x80\x00\x01", api.ErrBad},
	{"\xff\x80\x00", api.ErrBad},
	{"\x80\x80\x80\x80\x80\x80\x80\x80\x00", api.ErrBad},
	{"\x80\x80\x80\x80\x80\x80\x80\x80\x80\x00", api.ErrBad},
	{"\xff\xff\xff\xff\xff\xff\xff\xff\xff\x02", api.ErrBad},
	{"\xff\xff\xff\xff\xff\xff\xff\xff\xff\x7f", api.ErrBad},
	{"\x80\x80\x80\x80\x80\x80\x80\x80\x80\x80", api.ErrBad},
	{"\xff\xff\xff\xff\xff\xff\xff\xff\xff\x81\x00", api.ErrBad},
}

// otherWidths are widths that no word has.
var otherWidths = []int{math.MinInt, -8, -2, -1, 0, 1, 3, 5, 6, 7, 9, 16, math.MaxInt}

// blocks are of lengths whose number has one byte and more.
func blocks() [][]byte {
	return [][]byte{nil, {}, {0}, []byte("ab"), bytes.Repeat([]byte{0xff}, 127), bytes.Repeat([]byte{7}, 128), bytes.Repeat([]byte("xyz"), 6000)}
}

func wantReader(t *testing.T, about any, r *Reader, err api.Errno, left int) {
	t.Helper()
	if r.Err() != err || r.Left() != left {
		t.Errorf("%v: error %d, left %d, want %d, %d", about, r.Err(), r.Left(), err, left)
	}
}

// P1.1

func TestNumberAndSize(t *testing.T) {
	for _, x := range numbers {
		if b := Number(nil, x.n); string(b) != x.want {
			t.Errorf("Number of %x: % x", x.n, b)
		}
		if b := Number([]byte("ab"), x.n); string(b) != "ab"+x.want {
			t.Errorf("Number of %x behind ab: % x", x.n, b)
		}
		if Size(x.n) != len(x.want) {
			t.Errorf("Size of %x: %d", x.n, Size(x.n))
		}
	}
}

func TestSizeAtEachBit(t *testing.T) {
	for bit := range 64 {
		for _, n := range []uint64{1 << bit, 1<<bit - 1, 1<<bit + 1} {
			if Size(n) != len(Number(nil, n)) {
				t.Errorf("Size of %x: %d", n, Size(n))
			}
		}
	}
}

func TestWord(t *testing.T) {
	for _, x := range []struct {
		n     uint64
		bytes int
		want  string
	}{
		{0, 2, "\x00\x00"},
		{0x102, 2, "\x02\x01"},
		{0x102, 4, "\x02\x01\x00\x00"},
		{0x0102030405060708, 2, "\x08\x07"},
		{0x0102030405060708, 4, "\x08\x07\x06\x05"},
		{0x0102030405060708, 8, "\x08\x07\x06\x05\x04\x03\x02\x01"},
		{math.MaxUint64, 8, "\xff\xff\xff\xff\xff\xff\xff\xff"},
	} {
		if b := Word([]byte("a"), x.n, x.bytes); string(b) != "a"+x.want {
			t.Errorf("Word of %x in %d: % x", x.n, x.bytes, b)
		}
	}
}

func TestWordOfAnotherWidthIsLeftOut(t *testing.T) {
	for _, width := range otherWidths {
		if b := Word([]byte("ab"), math.MaxUint64, width); string(b) != "ab" {
			t.Errorf("width %d: % x", width, b)
		}
		if b := Word(nil, 1, width); len(b) != 0 {
			t.Errorf("width %d: % x", width, b)
		}
	}
}

func TestBlock(t *testing.T) {
	for _, x := range blocks() {
		want := "q" + string(Number(nil, uint64(len(x)))) + string(x)
		if b := Block([]byte("q"), x); string(b) != want {
			t.Errorf("Block of %d bytes: % x", len(x), b)
		}
	}
	if b := Block(nil, []byte("ab")); string(b) != "\x02ab" {
		t.Errorf("% x", b)
	}
	if b := Block(nil, nil); string(b) != "\x00" {
		t.Errorf("% x", b)
	}
}

func TestLaidDownInNewMemory(t *testing.T) {
	for name, lay := range map[string]func(b []byte) []byte{
		"Number":        func(b []byte) []byte { return Number(b, 300) },
		"Word":          func(b []byte) []byte { return Word(b, 300, 4) },
		"Word of 3":     func(b []byte) []byte { return Word(b, 300, 3) },
		"Block":         func(b []byte) []byte { return Block(b, []byte("xy")) },
		"Block of none": func(b []byte) []byte { return Block(b, nil) },
		"Block of b":    func(b []byte) []byte { return Block(b, b[1:]) },
	} {
		all := []byte("abcdefghijklmnop")
		b := all[:2]
		got := lay(b)
		for i := range got[:cap(got)] {
			got[:cap(got)][i] = '!'
		}
		if string(all) != "abcdefghijklmnop" {
			t.Errorf("%s: the bytes handed in became %q", name, all)
		}
	}
}

// P1.2

func TestReadNumber(t *testing.T) {
	for _, x := range numbers {
		r := New([]byte(x.want + "z"))
		if n := r.Number(); n != x.n {
			t.Errorf("% x: %x", x.want, n)
		}
		wantReader(t, x.n, r, api.OK, 1)
	}
}

func TestReadBadNumber(t *testing.T) {
	for _, x := range badNumbers {
		for name, read := range map[string]func(r *Reader) int{
			"Number": func(r *Reader) int { return int(r.Number()) },
			"Upto":   func(r *Reader) int { return int(r.Upto(0)) },
			"Block":  func(r *Reader) int { return len(r.Block()) },
		} {
			r := New([]byte(x.b))
			if n := read(r); n != 0 {
				t.Errorf("%s of % x: %d", name, x.b, n)
			}
			wantReader(t, fmt.Sprintf("%s of % x", name, x.b), r, x.err, len(x.b))
		}
	}
}

func TestReadUpto(t *testing.T) {
	for _, x := range numbers {
		b := []byte(x.want + "zz")
		r := New(b)
		if n := r.Upto(x.n); n != x.n {
			t.Errorf("Upto %x: %x", x.n, n)
		}
		wantReader(t, x.n, r, api.OK, 2)
		if x.n == 0 {
			continue
		}
		r = New(b)
		if n := r.Upto(x.n - 1); n != 0 {
			t.Errorf("Upto %x: %x", x.n-1, n)
		}
		wantReader(t, x.n-1, r, api.ErrLong, 2)
	}
}

func TestReadWord(t *testing.T) {
	b := []byte{1, 2, 3, 4, 5, 6, 7, 0xf8}
	for width, want := range map[int]uint64{2: 0x201, 4: 0x4030201, 8: 0xf807060504030201} {
		r := New(b)
		if n := r.Word(width); n != want {
			t.Errorf("Word of %d: %x", width, n)
		}
		wantReader(t, width, r, api.OK, 8-width)
		for short := range width {
			r := New(b[:short])
			if n := r.Word(width); n != 0 {
				t.Errorf("Word of %d in %d bytes: %x", width, short, n)
			}
			wantReader(t, width, r, api.ErrMore, short)
		}
	}
}

func TestReadWordOfAnotherWidth(t *testing.T) {
	for _, width := range otherWidths {
		for _, b := range []string{"", "a", "abcdefghijklmnopqrst"} {
			r := New([]byte(b))
			if n := r.Word(width); n != 0 {
				t.Errorf("width %d: %x", width, n)
			}
			wantReader(t, width, r, api.ErrBad, len(b))
		}
	}
}

func TestReadBlock(t *testing.T) {
	for _, x := range blocks() {
		laid := Block(nil, x)
		r := New(append(laid, "zz"...))
		if b := r.Block(); !bytes.Equal(b, x) {
			t.Errorf("% x: % x", x, b)
		}
		wantReader(t, len(x), r, api.OK, 2)
		if len(x) == 0 {
			continue
		}
		short := laid[:len(laid)-1]
		r = New(short)
		if b := r.Block(); len(b) != 0 {
			t.Errorf("% x: % x", short, b)
		}
		wantReader(t, len(x), r, api.ErrMore, len(short))
	}
}

func TestReadBlockThatClaimsMoreThanThereCanBe(t *testing.T) {
	for _, n := range []uint64{4, math.MaxInt32, 1 << 32, math.MaxInt64, 1 << 63, math.MaxUint64} {
		b := append(Number(nil, n), "abc"...)
		r := New(b)
		if x := r.Block(); len(x) != 0 {
			t.Errorf("%x: % x", n, x)
		}
		wantReader(t, n, r, api.ErrMore, len(b))
	}
}

func TestReadFixed(t *testing.T) {
	for _, x := range []struct {
		n    int
		want string
		err  api.Errno
		left int
	}{
		{0, "", api.OK, 3},
		{-1, "", api.OK, 3},
		{math.MinInt, "", api.OK, 3},
		{1, "a", api.OK, 2},
		{3, "abc", api.OK, 0},
		{4, "", api.ErrMore, 3},
		{math.MaxInt, "", api.ErrMore, 3},
	} {
		r := New([]byte("abc"))
		if b := r.Fixed(x.n); string(b) != x.want {
			t.Errorf("Fixed of %d: %q", x.n, b)
		}
		wantReader(t, x.n, r, x.err, x.left)
	}
}

func TestReadNothingOfNothing(t *testing.T) {
	for _, b := range [][]byte{nil, {}} {
		r := New(b)
		if x := r.Fixed(0); len(x) != 0 || r.End() != api.OK {
			t.Error(x, r.Err())
		}
		if x := r.Fixed(1); len(x) != 0 || r.End() != api.ErrMore {
			t.Error(x, r.Err())
		}
	}
}

// calls are the reader's calls that read, each of which would read of noughts if there were no error.
func calls() map[string]func(r *Reader) int {
	return map[string]func(r *Reader) int{
		"Number": func(r *Reader) int { return int(r.Number()) },
		"Upto":   func(r *Reader) int { return int(r.Upto(9)) },
		"Word":   func(r *Reader) int { return int(r.Word(2)) },
		"Word 3": func(r *Reader) int { return int(r.Word(3)) },
		"Block":  func(r *Reader) int { return len(r.Block()) },
		"Fixed":  func(r *Reader) int { return len(r.Fixed(1)) },
		"Fixed0": func(r *Reader) int { return len(r.Fixed(0)) },
	}
}

func TestErrorStays(t *testing.T) {
	for name, call := range calls() {
		for err, fail := range map[api.Errno]func(r *Reader){
			api.ErrLong: func(r *Reader) { r.Upto(0) },
			api.ErrMore: func(r *Reader) { r.Fixed(99) },
			api.ErrBad:  func(r *Reader) { r.End() },
		} {
			r := New([]byte{1, 1, 1, 1, 1})
			fail(r)
			left := r.Left()
			if n := call(r); n != 0 {
				t.Errorf("%s behind error %d: %d", name, err, n)
			}
			wantReader(t, name, r, err, left)
			if e := r.End(); e != err {
				t.Errorf("%s behind error %d: End %d", name, err, e)
			}
		}
	}
}

func TestEnd(t *testing.T) {
	r := New([]byte{5, 6})
	if r.Number() != 5 || r.Err() != api.OK || r.End() != api.ErrBad || r.Err() != api.ErrBad {
		t.Error("bytes are left", r.Err())
	}
	if r.Number() != 0 || r.End() != api.ErrBad || r.Left() != 1 {
		t.Error("End's error stays", r.Err(), r.Left())
	}
	r = New([]byte{5})
	if r.Number() != 5 || r.End() != api.OK || r.End() != api.OK || r.Err() != api.OK {
		t.Error("no bytes are left", r.Err())
	}
}

func TestReaderThatNobodyMade(t *testing.T) {
	for about, r := range map[string]*Reader{"nil": nil, "zero": {}, "new": new(Reader)} {
		for name, call := range calls() {
			if n := call(r); n != 0 {
				t.Errorf("%s, %s: %d", about, name, n)
			}
			if r.Left() != 0 || r.End() != api.ErrNil || r.Err() != api.ErrNil {
				t.Errorf("%s, %s: %d, %d, %d", about, name, r.Left(), r.End(), r.Err())
			}
		}
		if r.Block() != nil || r.Fixed(3) != nil {
			t.Errorf("%s: bytes of nobody", about)
		}
	}
}

func TestReaderKeepsNothingHandedIn(t *testing.T) {
	b := []byte("\x02abcd")
	r := New(b)
	for i := range b {
		b[i] = 0xff
	}
	if x := r.Block(); string(x) != "ab" || string(r.Fixed(2)) != "cd" || r.End() != api.OK {
		t.Errorf("%q", x)
	}
}

func TestAnswersShareNoMemory(t *testing.T) {
	b := []byte("\x02abcdef")
	r := New(b[:5])
	x := r.Block()
	for i := range x[:cap(x)] {
		x[:cap(x)][i] = '!'
	}
	y := r.Fixed(1)
	for i := range y[:cap(y)] {
		y[:cap(y)][i] = '?'
	}
	if z := r.Fixed(1); string(z) != "d" || string(x) != "!!" || string(b) != "\x02abcdef" {
		t.Errorf("%q, %q, %q", x, z, b)
	}
}

// P1.3

// Each kind of thing, one behind the other, each with something else behind it.
func TestReadAsLaidDown(t *testing.T) {
	for _, tail := range []string{"", "\x00", "\x80", "\xff\xff", "\x01abc"} {
		for _, x := range numbers {
			for _, y := range blocks() {
				b := Word(Block(Number(nil, x.n), y), x.n, 8)
				b = Number(Word(Word(b, x.n, 2), x.n, 4), uint64(len(y)))
				r := New(append(append(b, y...), tail...))
				if r.Number() != x.n || !bytes.Equal(r.Block(), y) || r.Word(8) != x.n ||
					r.Word(2) != x.n&0xffff || r.Word(4) != x.n&0xffffffff ||
					r.Upto(uint64(len(y))) != uint64(len(y)) || !bytes.Equal(r.Fixed(len(y)), y) {
					t.Errorf("%x, %d bytes: error %d", x.n, len(y), r.Err())
				}
				wantReader(t, x.n, r, api.OK, len(tail))
			}
		}
	}
}

// Bytes that are read as a number are those that this number is laid down as, and none are another's.
func TestOneNumberForItsBytes(t *testing.T) {
	for a := range 256 {
		for b := range 256 {
			for _, c := range []byte{0, 1, 0x7f, 0x80, 0xff} {
				all := []byte{byte(a), byte(b), c}
				r := New(all)
				n := r.Number()
				if r.Err() == api.OK && !bytes.Equal(Number(nil, n), all[:3-r.Left()]) {
					t.Fatalf("% x: %x", all, n)
				}
			}
		}
	}
}

func TestUnlikeThingsHaveUnlikeBytes(t *testing.T) {
	seen := map[string]uint64{}
	for n := range uint64(1 << 15) {
		b := string(Number(nil, n))
		if m, ok := seen[b]; ok {
			t.Fatalf("%d and %d: % x", m, n, b)
		}
		seen[b] = n
	}
	for i, x := range blocks()[1:] {
		for _, y := range blocks()[i+2:] {
			if bytes.HasPrefix(Block(nil, y), Block(nil, x)) {
				t.Errorf("% x begins with % x", y, x)
			}
		}
	}
}

// A reader over the first bytes of a longer list reads none of those behind them.
func TestNeverPastTheEnd(t *testing.T) {
	all := Block(Word(Number(nil, math.MaxUint64), 77, 8), []byte("abc"))
	for end := range all {
		r := New(all[:end])
		n, w, x := r.Number(), r.Word(8), r.Block()
		if len(x) != 0 || r.Err() != api.ErrMore {
			t.Errorf("%d bytes: %x, %x, %q, error %d", end, n, w, x, r.Err())
		}
		if (n != 0) != (end >= 10) || (w != 0) != (end >= 18) {
			t.Errorf("%d bytes: %x, %x", end, n, w)
		}
	}
}

// FuzzReader does any calls over any bytes: none panics, and what was read and what is left are the bytes.
func FuzzReader(f *testing.F) {
	f.Add([]byte("\x02abcd\x80\x01"), []byte{0, 1, 2, 3, 4})
	f.Add([]byte("\xff\xff\xff\xff\xff\xff\xff\xff\xff\x02"), []byte{1, 0})
	f.Add([]byte{}, []byte{5, 4, 3, 2, 1, 0})
	f.Fuzz(func(t *testing.T, b, script []byte) {
		r := New(b)
		var again []byte
		for _, step := range script {
			left, arg := r.Left(), int(step>>3)-1
			more := again
			switch step % 6 {
			case 0:
				more = Number(again, r.Number())
			case 1:
				more = Number(again, r.Upto(uint64(step)))
			case 2:
				more = Word(again, r.Word(arg), arg)
			case 3:
				more = Block(again, r.Block())
			case 4:
				more = append(bytes.Clone(again), r.Fixed(arg)...)
			case 5:
				r.End()
			}
			if r.Left() < 0 || r.Left() > left {
				t.Fatal("left", r.Left(), "of", left)
			}
			if r.Err() != api.OK {
				break
			}
			again = more
			if !bytes.Equal(again, b[:len(b)-r.Left()]) {
				t.Fatalf("% x, of % x", again, b)
			}
		}
	})
}

func TestExamplesOfTheChapter(t *testing.T) {
	for n, want := range map[uint64]string{0: "\x00", 0x80: "\x80\x01", 0x12c: "\xac\x02"} {
		if b := Number(nil, n); string(b) != want {
			t.Errorf("Number of %x: % x", n, b)
		}
	}
	if b := Word(nil, 0x102, 4); string(b) != "\x02\x01\x00\x00" {
		t.Errorf("Word: % x", b)
	}
	if r := New([]byte{0x80, 0}); r.Number() != 0 || r.Err() != api.ErrBad {
		t.Errorf("80 00: %d", r.Err())
	}
	if b := Block(nil, []byte("ab")); string(b) != "\x02\x61\x62" {
		t.Errorf("Block: % x", b)
	}
}
