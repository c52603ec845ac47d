package xhash

import (
	"encoding/binary"
	"math"
	"math/bits"
	"testing"
)

// The chapter's primes, written out once more, so that a wrong digit in the program's own is told.
const (
	p1 uint64 = 11400714785074694791
	p2 uint64 = 14029467366897019727
	p3 uint64 = 1609587929392839161
	p4 uint64 = 9650029242287828579
	p5 uint64 = 2870177450012600261
)

var seeds = []uint64{0, 1, 7, 9001, 2654435761, 1 << 63, math.MaxUint64}

// words are noughts, ones, each lone bit, the bits below each, and words without a pattern.
func words() []uint64 {
	all := []uint64{0, math.MaxUint64, p1, p2, p3, p4, p5}
	for bit := range 64 {
		all = append(all, 1<<bit, 1<<bit-1, ^(uint64(1) << bit))
	}
	for w := uint64(12345); len(all) < 600; w = w*6364136223846793005 + 1442695040888963407 {
		all = append(all, w)
	}
	return all
}

// published are the bytes that the hash's own publication tests it with.
func published(n int) []byte {
	b := make([]byte, n)
	for i, w := 0, uint64(2654435761); i < n; i, w = i+1, w*11400714785074694797 {
		b[i] = byte(w >> 56)
	}
	return b
}

func rot(w uint64, by int) uint64 { return w<<by | w>>(64-by) }

// byIndex is the hash by places in the bytes, written apart from the program's own.
func byIndex(s uint64, b []byte) uint64 {
	word := func(at int) uint64 { return binary.LittleEndian.Uint64(b[at:]) }
	round := func(a, w uint64) uint64 { return rot(a+w*p2, 31) * p1 }
	at, h := 0, s+p5
	if len(b) >= 32 {
		a1, a2, a3, a4 := s+p1+p2, s+p2, s, s-p1
		for ; at+32 <= len(b); at += 32 {
			a1, a2 = round(a1, word(at)), round(a2, word(at+8))
			a3, a4 = round(a3, word(at+16)), round(a4, word(at+24))
		}
		h = rot(a1, 1) + rot(a2, 7) + rot(a3, 12) + rot(a4, 18)
		for _, a := range []uint64{a1, a2, a3, a4} {
			h = (h^round(0, a))*p1 + p4
		}
	}
	h += uint64(len(b))
	for ; at+8 <= len(b); at += 8 {
		h = rot(h^round(0, word(at)), 27)*p1 + p4
	}
	if at+4 <= len(b) {
		h = rot(h^uint64(binary.LittleEndian.Uint32(b[at:]))*p1, 23)*p2 + p3
		at += 4
	}
	for ; at < len(b); at++ {
		h = rot(h^uint64(b[at])*p5, 11) * p1
	}
	h = (h ^ h>>33) * p2
	h = (h ^ h>>29) * p3
	return h ^ h>>32
}

// P2.1

func TestExamplesOfTheChapter(t *testing.T) {
	for s, want := range map[string]uint64{
		"":    0xef46db3751d8e999,
		"a":   0xd24ec4f1a98c6e5b,
		"abc": 0x44bc2cf5ad770999,
	} {
		if Sum(0, []byte(s)) != want || Text(0, s) != want {
			t.Errorf("%q: %x, %x", s, Sum(0, []byte(s)), Text(0, s))
		}
	}
	if h := Sum(0, nil); h != 0xef46db3751d8e999 {
		t.Errorf("nil: %x", h)
	}
}

func TestPublishedTexts(t *testing.T) {
	for s, want := range map[string]uint64{
		"as":   0x1c330fb2d66be179,
		"asd":  0x631c37ce72a97393,
		"asdf": 0x415872f599cea71e,
		"Call me Ishmael. Some years ago--never mind how long precisely-": 0x02a2e85470d6fd96,
	} {
		if h := Text(0, s); h != want {
			t.Errorf("%q: %x", s, h)
		}
	}
}

func TestPublishedBytes(t *testing.T) {
	for _, x := range []struct {
		bytes int
		seed  uint64
		want  uint64
	}{
		{0, 0, 0xef46db3751d8e999},
		{0, 2654435761, 0xac75fda2929b17ef},
		{1, 0, 0xe934a84adb052768},
		{1, 2654435761, 0x5014607643a9b4c3},
		{4, 0, 0x9136a0dca57457ee},
		{14, 0, 0x8282dcc4994e35c8},
		{14, 2654435761, 0xc3bd6bf63deb6df0},
		{222, 0, 0xb641ae8cb691c174},
		{222, 2654435761, 0x20cb8ab7ae10c14a},
	} {
		if h := Sum(x.seed, published(x.bytes)); h != x.want {
			t.Errorf("%d bytes, seed %d: %x", x.bytes, x.seed, h)
		}
	}
}

// Every length up to some stripes: none, below 4, 4 to 7, 8 to 31, 32 and more, and all that may be left.
func TestSumAtEachLength(t *testing.T) {
	for n := range 5 * 32 {
		for _, seed := range seeds {
			b := published(n)
			if h, want := Sum(seed, b), byIndex(seed, b); h != want {
				t.Errorf("%d bytes, seed %d: %x, want %x", n, seed, h, want)
			}
		}
	}
	for _, n := range []int{1023, 1024, 1025, 1<<16 - 1, 1 << 16, 1<<16 + 39} {
		b := published(n)
		if h, want := Sum(9001, b), byIndex(9001, b); h != want {
			t.Errorf("%d bytes: %x, want %x", n, h, want)
		}
	}
}

func TestTextIsTheSumOfItsBytes(t *testing.T) {
	for _, s := range []string{"", "\x00", "\xff\xfe", "Zähler", "日本", "a\x00b", "0123456789012345678901234567890123456789"} {
		for _, seed := range seeds {
			if Text(seed, s) != Sum(seed, []byte(s)) || Text(seed, s) != byIndex(seed, []byte(s)) {
				t.Errorf("%q, seed %d: %x", s, seed, Text(seed, s))
			}
		}
	}
}

func TestSumLeavesItsBytesAndReadsNoneBehindThem(t *testing.T) {
	for n := range 100 {
		b := published(140)
		h := Sum(3, b[:n])
		if string(b) != string(published(140)) {
			t.Fatalf("%d bytes: changed", n)
		}
		for i := n; i < len(b); i++ {
			b[i] ^= 0xff
		}
		if Sum(3, b[:n]) != h {
			t.Errorf("%d bytes: those behind them are read", n)
		}
	}
}

// Each bit of the bytes, their order, noughts at the end, and the seed are in the hash.
func TestUnlikeBytesHaveUnlikeSums(t *testing.T) {
	seen := map[uint64]string{}
	tell := func(seed uint64, b []byte, about string) {
		h := Sum(seed, b)
		if other, ok := seen[h]; ok {
			t.Errorf("%s and %s: %x", about, other, h)
		}
		seen[h] = about
	}
	for n := range 80 {
		tell(0, make([]byte, n), "noughts")
		tell(1, make([]byte, n), "noughts by seed 1")
		for bit := range 8 * n {
			b := make([]byte, n)
			b[bit/8] = 1 << (bit % 8)
			tell(0, b, "one bit")
		}
	}
}

func TestRoundMergeAvalanche(t *testing.T) {
	all := words()
	for i, x := range all {
		y := all[len(all)-1-i]
		if h, want := Round(x, y), rot(x+y*p2, 31)*p1; h != want {
			t.Errorf("Round of %x, %x: %x, want %x", x, y, h, want)
		}
		if h, want := Merge(x, y), (x^rot(y*p2, 31)*p1)*p1+p4; h != want {
			t.Errorf("Merge of %x, %x: %x, want %x", x, y, h, want)
		}
		h := (x ^ x>>33) * p2
		h = (h ^ h>>29) * p3
		if want := h ^ h>>32; Avalanche(x) != want {
			t.Errorf("Avalanche of %x: %x, want %x", x, Avalanche(x), want)
		}
	}
	if Round(0, 0) != 0 || Merge(0, 0) != p4 || Avalanche(0) != 0 {
		t.Errorf("of 0: %x, %x, %x", Round(0, 0), Merge(0, 0), Avalanche(0))
	}
}

func TestLowAndHigh(t *testing.T) {
	const h = 0xfedcba9876543210
	for _, x := range []struct {
		bits      int
		low, high uint64
	}{
		{math.MinInt, 0, 0},
		{-1, 0, 0},
		{0, 0, 0},
		{1, 0, 1},
		{4, 0, 0xf},
		{5, 0x10, 0x1f},
		{8, 0x10, 0xfe},
		{32, 0x76543210, 0xfedcba98},
		{63, 0x7edcba9876543210, h >> 1},
		{64, h, h},
		{65, h, h},
		{128, h, h},
		{math.MaxInt, h, h},
	} {
		if Low(h, x.bits) != x.low || High(h, x.bits) != x.high {
			t.Errorf("%d bits: %x, %x", x.bits, Low(h, x.bits), High(h, x.bits))
		}
	}
}

func TestBitsOneByOne(t *testing.T) {
	for _, h := range words() {
		low, high := uint64(0), uint64(0)
		for n := range 65 {
			if Low(h, n) != low || High(h, n) != high {
				t.Fatalf("%d bits of %x: %x, %x, want %x, %x", n, h, Low(h, n), High(h, n), low, high)
			}
			if n < 64 {
				low |= h >> n & 1 << n
				high = high<<1 | h>>(63-n)&1
			}
		}
	}
}

// P2.2

// inverse tells what odd times is 1.
func inverse(odd uint64) uint64 {
	x := odd
	for range 6 {
		x *= 2 - odd*x
	}
	return x
}

// backAvalanche undoes Avalanche step by step, from the last on; a shift by half the bits or more undoes itself.
func backAvalanche(h uint64) uint64 {
	h ^= h >> 32
	h *= inverse(p3)
	h ^= h>>29 ^ h>>58
	h *= inverse(p2)
	return h ^ h>>33
}

func TestAvalancheLosesNothing(t *testing.T) {
	ends := map[uint64]uint64{}
	for _, h := range words() {
		end := Avalanche(h)
		if backAvalanche(end) != h {
			t.Errorf("%x ends as %x, which came of %x", h, end, backAvalanche(end))
		}
		if Avalanche(backAvalanche(h)) != h {
			t.Errorf("nothing ends as %x", h)
		}
		if other, ok := ends[end]; ok && other != h {
			t.Errorf("%x and %x end as %x", other, h, end)
		}
		ends[end] = h
	}
}

func TestRoundIsOneToOneInEach(t *testing.T) {
	back := func(r uint64) uint64 { return bits.RotateLeft64(r*inverse(p1), -31) }
	all := words()
	for _, a := range all {
		for _, w := range all[:200] {
			r := Round(a, w)
			if back(r)-w*p2 != a || (back(r)-a)*inverse(p2) != w {
				t.Fatalf("Round of %x, %x is %x, of which they do not come back", a, w, r)
			}
		}
	}
}

func TestLowAndHighTogetherAreTheHash(t *testing.T) {
	for _, h := range append(words(), Sum(9001, []byte("name"))) {
		for n := range 65 {
			if got := High(h, 64-n)<<n | Low(h, n); got != h {
				t.Errorf("%x of %x, at %d", got, h, n)
			}
		}
	}
}

func FuzzSum(f *testing.F) {
	f.Add(uint64(0), []byte{})
	f.Add(uint64(9001), published(45))
	f.Fuzz(func(t *testing.T, seed uint64, b []byte) {
		want := byIndex(seed, b)
		if Sum(seed, b) != want || Text(seed, string(b)) != want {
			t.Errorf("% x, seed %d: %x, %x, want %x", b, seed, Sum(seed, b), Text(seed, string(b)), want)
		}
	})
}
