package crc

import (
	"bytes"
	"hash/crc32"
	"math"
	"slices"
	"testing"
)

// plain are bytes without a pattern, told by where they begin.
func plain(from uint64, n int) []byte {
	b := make([]byte, n)
	for i, w := 0, from*2+1; i < n; i++ {
		w = w*6364136223846793005 + 1442695040888963407
		b[i] = byte(w >> 56)
	}
	return b
}

// states are noughts, ones, each lone bit, all but one, and states without a pattern.
func states() []uint32 {
	all := []uint32{0, math.MaxUint32, 0x82f63b78, 0xe3069283, 0x00ffffff, 0xff}
	for bit := range 32 {
		all = append(all, 1<<bit, ^(uint32(1) << bit))
	}
	for w := uint32(12345); len(all) < 120; w = w*1664525 + 1013904223 {
		all = append(all, w)
	}
	return all
}

// bitByBit is the sum without a table, written apart from the program's own.
func bitByBit(b []byte) uint32 {
	s := uint32(math.MaxUint32)
	for _, x := range b {
		for bit := range 8 {
			out := (s ^ uint32(x)>>bit) & 1
			s = s>>1 ^ out*0x82f63b78
		}
	}
	return s ^ math.MaxUint32
}

// foreign are tables other than Table's own: noughts, words told by their place, and another published one.
func foreign() [][256]uint32 {
	var noughts, places [256]uint32
	for i := range places {
		places[i] = uint32(i)*0x9e3779b1 + 1
	}
	return [][256]uint32{noughts, places, *crc32.IEEETable}
}

// along goes through the bytes by the chapter's rule, byte by byte, with any table.
func along(t [256]uint32, state uint32, b []byte) uint32 {
	for i := range b {
		place := state%256 ^ uint32(b[i])
		state = state/256 ^ t[place]
	}
	return state
}

func xor(a, b []byte) []byte {
	x := bytes.Clone(a)
	for i := range x {
		x[i] ^= b[i]
	}
	return x
}

// P3.1

func TestExamplesOfTheChapter(t *testing.T) {
	if w := Table(); w[1] != 0xf26b8303 || w[0x80] != 0x82f63b78 {
		t.Errorf("words of 1 and 80: %x, %x", w[1], w[0x80])
	}
	if s := Sum([]byte("123456789")); s != 0xe3069283 {
		t.Errorf("digits: %x", s)
	}
	if Sum(nil) != 0 || Sum([]byte{}) != 0 {
		t.Errorf("no bytes: %x, %x", Sum(nil), Sum([]byte{}))
	}
}

func TestPublishedSums(t *testing.T) {
	up, down := make([]byte, 32), make([]byte, 32)
	for i := range up {
		up[i], down[i] = byte(i), byte(31-i)
	}
	read := []byte{
		0x01, 0xc0, 0, 0, 0, 0, 0, 0, 0, 0, 0, 0, 0, 0, 0, 0,
		0x14, 0, 0, 0, 0, 0, 4, 0, 0, 0, 0, 0x14, 0, 0, 0, 0x18,
		0x28, 0, 0, 0, 0, 0, 0, 0, 2, 0, 0, 0, 0, 0, 0, 0,
	}
	for _, x := range []struct {
		about string
		bytes []byte
		want  uint32
	}{
		{"noughts", make([]byte, 32), 0x8a9136aa},
		{"ones", bytes.Repeat([]byte{0xff}, 32), 0x62a8ab43},
		{"up", up, 0x46dd794e},
		{"down", down, 0x113fdb5c},
		{"a command that reads", read, 0xd9963a56},
		{"a letter", []byte("a"), 0xc1d04330},
		{"a sentence", []byte("The quick brown fox jumps over the lazy dog"), 0x22620404},
	} {
		if s := Sum(x.bytes); s != x.want {
			t.Errorf("%s: %x, want %x", x.about, s, x.want)
		}
	}
}

func TestTable(t *testing.T) {
	table, published := Table(), crc32.MakeTable(crc32.Castagnoli)
	for b := range table {
		w := uint32(b)
		for range 8 {
			if w%2 == 1 {
				w = w/2 ^ 0x82f63b78
			} else {
				w /= 2
			}
		}
		if table[b] != w || table[b] != published[b] {
			t.Errorf("word of %x: %x, want %x, %x", b, table[b], w, published[b])
		}
	}
}

func TestTableIsItsOwnMemory(t *testing.T) {
	table := Table()
	clear(table[:])
	if again := Table(); again[1] != 0xf26b8303 || Sum([]byte("123456789")) != 0xe3069283 {
		t.Error("a change in one table is seen in others")
	}
}

func TestStep(t *testing.T) {
	for i, table := range append(foreign(), Table()) {
		for _, s := range states() {
			for b := range 256 {
				if got, want := Step(table, s, byte(b)), along(table, s, []byte{byte(b)}); got != want {
					t.Fatalf("table %d, state %x, byte %x: %x, want %x", i, s, b, got, want)
				}
			}
		}
	}
}

// A step is neither begun with ones nor turned at the end.
func TestStepAtStatesThatAreTold(t *testing.T) {
	table := Table()
	for _, x := range []struct {
		state uint32
		b     byte
		want  uint32
	}{
		{0, 0, 0},
		{0, 1, 0xf26b8303},
		{1, 0, 0xf26b8303},
		{1, 1, 0},
		{0x80, 0, 0x82f63b78},
		{0x100, 0, 1},
		{0x12345600, 0, 0x00123456},
		{0x12345601, 0, 0xf26b8303 ^ 0x00123456},
		{math.MaxUint32, 0xff, 0x00ffffff},
	} {
		if s := Step(table, x.state, x.b); s != x.want {
			t.Errorf("state %x, byte %x: %x, want %x", x.state, x.b, s, x.want)
		}
	}
	s := uint32(math.MaxUint32)
	for _, b := range []byte("123456789") {
		s = Step(table, s, b)
	}
	if ^s != 0xe3069283 {
		t.Errorf("begun, all steps, turned: %x", ^s)
	}
}

func TestOn(t *testing.T) {
	table := Table()
	if s := On(table, 0, []byte("123456789")); s != 0xe3069283 {
		t.Errorf("of nothing, then the digits: %x", s)
	}
	if s := On(table, Sum([]byte("1234")), []byte("56789")); s != 0xe3069283 {
		t.Errorf("of four digits, then the others: %x", s)
	}
	if On(table, 0, nil) != 0 || On(table, 0, []byte{}) != 0 {
		t.Errorf("of nothing, then nothing: %x", On(table, 0, nil))
	}
	for i, table := range append(foreign(), Table()) {
		for n, s := range states() {
			b := plain(uint64(n), n)
			if got, want := On(table, s, b), ^along(table, ^s, b); got != want {
				t.Errorf("table %d, sum %x, %d bytes: %x, want %x", i, s, n, got, want)
			}
			if On(table, s, nil) != s || On(table, s, []byte{}) != s {
				t.Errorf("table %d, sum %x, no bytes: %x", i, s, On(table, s, nil))
			}
		}
	}
}

// With another published table On goes by that one's sum.
func TestOnByAnotherPublishedTable(t *testing.T) {
	if s := On(*crc32.IEEETable, 0, []byte("123456789")); s != 0xcbf43926 {
		t.Errorf("%x", s)
	}
	for n := range 40 {
		b := plain(1, n)
		if got, want := On(*crc32.IEEETable, 77, b), crc32.Update(77, crc32.IEEETable, b); got != want {
			t.Errorf("%d bytes: %x, want %x", n, got, want)
		}
	}
}

func TestSumAtEachLength(t *testing.T) {
	published := crc32.MakeTable(crc32.Castagnoli)
	for _, n := range append(lengths(300), 511, 512, 513, 4080, 4095, 4096, 4097, 1<<17+5) {
		b := plain(uint64(n), n)
		s := Sum(b)
		if want := crc32.Checksum(b, published); s != want || s != bitByBit(b) || s != On(Table(), 0, b) {
			t.Errorf("%d bytes: %x, want %x, %x", n, s, want, bitByBit(b))
		}
	}
}

// lengths are 0 to n-1.
func lengths(n int) []int {
	all := make([]int, n)
	for i := range all {
		all[i] = i
	}
	return all
}

func TestNoughtsAreCounted(t *testing.T) {
	seen := map[uint32]int{}
	for n := range 300 {
		s := Sum(make([]byte, n))
		if other, ok := seen[s]; ok {
			t.Errorf("%d and %d noughts: %x", other, n, s)
		}
		seen[s] = n
	}
}

func TestParts(t *testing.T) {
	digits := []byte("123456789")
	for _, x := range []struct {
		about string
		parts [][]byte
		want  uint32
	}{
		{"a nil list", nil, 0},
		{"an empty list", [][]byte{}, 0},
		{"one nil part", [][]byte{nil}, 0},
		{"parts of no bytes", [][]byte{nil, {}, nil}, 0},
		{"one part", [][]byte{digits}, 0xe3069283},
		{"two parts", [][]byte{digits[:2], digits[2:]}, 0xe3069283},
		{"no bytes between", [][]byte{digits[:2], digits[2:6], nil, {}, digits[6:]}, 0xe3069283},
		{"no bytes around", [][]byte{nil, digits, {}}, 0xe3069283},
		{"the other order", [][]byte{digits[2:], digits[:2]}, Sum([]byte("345678912"))},
		{"one part twice", [][]byte{digits[:3], digits[:3]}, Sum([]byte("123123"))},
	} {
		if s := Parts(x.parts...); s != x.want {
			t.Errorf("%s: %x, want %x", x.about, s, x.want)
		}
	}
	if Parts() != 0 {
		t.Errorf("no parts: %x", Parts())
	}
	if s := Parts(digits[:4], digits[4:]); s != 0xe3069283 {
		t.Errorf("parts one by one: %x", s)
	}
}

func TestManyParts(t *testing.T) {
	b := plain(5, 1<<14)
	if s := Parts(slices.Collect(slices.Chunk(b, 1))...); s != bitByBit(b) {
		t.Errorf("%x, want %x", s, bitByBit(b))
	}
}

func TestCallsLeaveWhatTheyAreGiven(t *testing.T) {
	b, table := plain(9, 60), Table()
	parts := [][]byte{b[:20], b[20:20], b[20:40]}
	sum, on, all := Sum(b[:40]), On(table, 7, b[:40]), Parts(parts[:2]...)
	Step(table, 7, 8)
	if !bytes.Equal(b, plain(9, 60)) || table != Table() {
		t.Error("bytes or the table are changed")
	}
	if len(parts[0]) != 20 || len(parts[1]) != 0 || len(parts[2]) != 20 || &parts[2][0] != &b[20] {
		t.Error("the list of parts is changed")
	}
	for i := 40; i < len(b); i++ {
		b[i] ^= 0xff
	}
	parts[2] = []byte{1}
	if Sum(b[:40]) != sum || On(table, 7, b[:40]) != on || Parts(parts[:2]...) != all {
		t.Error("what stands behind the bytes or the parts is read")
	}
}

// P3.2

func TestOnOfPartsIsTheSumOfAll(t *testing.T) {
	b, table := plain(3, 70), Table()
	for i := range len(b) + 1 {
		for j := i; j <= len(b); j++ {
			want := bitByBit(b)
			if s := On(table, On(table, Sum(b[:i]), b[i:j]), b[j:]); s != want {
				t.Fatalf("On, cut at %d and %d: %x, want %x", i, j, s, want)
			}
			if s := Parts(b[:i], b[i:j], b[j:]); s != want {
				t.Fatalf("Parts, cut at %d and %d: %x, want %x", i, j, s, want)
			}
		}
	}
}

func TestOneOtherByteHasAnotherSum(t *testing.T) {
	for _, n := range []int{1, 2, 5, 33, 256} {
		b := plain(uint64(n), n)
		s := Sum(b)
		for i := range b {
			for x := 1; x < 256; x++ {
				b[i] ^= byte(x)
				if Sum(b) == s {
					t.Fatalf("%d bytes, place %d, xor %x: %x both", n, i, x, s)
				}
				b[i] ^= byte(x)
			}
		}
	}
}

// turn tells b with bits turned, counted on from each byte's lowest: the order in which the sum takes them.
func turn(b []byte, from int, bits uint32) []byte {
	x := bytes.Clone(b)
	for i := range 32 {
		if bits>>i&1 == 1 {
			x[(from+i)/8] ^= 1 << ((from + i) % 8)
		}
	}
	return x
}

// rank tells how many of the words no others of them xor to.
func rank(words []uint32) int {
	n := 0
	for bit := range 32 {
		i := slices.IndexFunc(words[n:], func(w uint32) bool { return w>>bit&1 == 1 })
		if i < 0 {
			continue
		}
		words[n], words[n+i] = words[n+i], words[n]
		for j := range words {
			if j != n && words[j]>>bit&1 == 1 {
				words[j] ^= words[n]
			}
		}
		n++
	}
	return n
}

// What 32 bits side by side change in a sum, each alone, are 32 words of which no choice xors to nought.
func TestBitsSideBySideChangeTheSum(t *testing.T) {
	for _, n := range []int{4, 5, 9, 64} {
		b := plain(uint64(n), n)
		s := Sum(b)
		for from := range 8*n - 31 {
			var changes []uint32
			for i := range 32 {
				changes = append(changes, Sum(turn(b, from, 1<<i))^s)
			}
			if r := rank(changes); r != 32 {
				t.Errorf("%d bytes, from bit %d: some bits of 32 leave the sum as it is (rank %d)", n, from, r)
			}
			for _, bits := range states()[1:] {
				if Sum(turn(b, from, bits)) == s {
					t.Errorf("%d bytes, from bit %d, bits %x: %x both", n, from, bits, s)
				}
			}
		}
	}
}

func TestThreeRowsXor(t *testing.T) {
	for _, n := range append(lengths(80), 512, 4096) {
		a, b, c := plain(1, n), plain(2, n), plain(3, n)
		if n%3 == 1 {
			c = make([]byte, n)
		}
		if n%3 == 2 {
			c = bytes.Clone(a)
		}
		if got, want := Sum(a)^Sum(b)^Sum(c), Sum(xor(xor(a, b), c)); got != want {
			t.Errorf("%d bytes: %x, want %x", n, got, want)
		}
	}
}

func FuzzSum(f *testing.F) {
	f.Add([]byte{}, []byte{}, uint32(0))
	f.Add([]byte("1234"), []byte("56789"), uint32(7))
	f.Fuzz(func(t *testing.T, a, b []byte, sum uint32) {
		want := bitByBit(append(bytes.Clone(a), b...))
		if s := Parts(a, b); s != want {
			t.Errorf("Parts of % x and % x: %x, want %x", a, b, s, want)
		}
		if s := On(Table(), Sum(a), b); s != want {
			t.Errorf("On of % x and % x: %x, want %x", a, b, s, want)
		}
		if s, want := On(Table(), sum, b), ^along(Table(), ^sum, b); s != want {
			t.Errorf("On of sum %x and % x: %x, want %x", sum, b, s, want)
		}
	})
}
