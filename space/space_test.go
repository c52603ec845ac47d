package space

import (
	"bytes"
	"encoding/binary"
	"encoding/hex"
	"fmt"
	"math"
	"math/big"
	"slices"
	"testing"

	"tallyman/api"
)

// sizes are Pages that may be, multiples of 8 and all rests among them.
func sizes() []int {
	return []int{8, 9, 10, 11, 12, 13, 14, 15, 16, 17, 23, 24, 25, 63, 64, 65, 100, 1000, 4088, 4089, 4095, 4096}
}

// wrongSizes are Pages that may not be.
func wrongSizes() []int {
	return []int{0, 1, 2, 3, 6, 7, -1, -2, -7, -8, -9, -4096, 4097, 4098, 4104, 8192, 1 << 16, math.MaxInt32, math.MaxInt64, math.MinInt32, math.MinInt64}
}

// of is a space of which these pages are used, 0 and 1 too, whatever New makes.
func of(pages int, used ...int) api.Space {
	s := api.Space{Pages: pages, Used: make([]bool, pages)}
	for _, n := range append([]int{0, 1}, used...) {
		s.Used[n] = true
	}
	return s
}

// fullOf is a space of which all pages are used but these.
func fullOf(pages int, free ...int) api.Space {
	s := api.Space{Pages: pages, Used: slices.Repeat([]bool{true}, pages)}
	for _, n := range free {
		s.Used[n] = false
	}
	return s
}

// patterned is a space whose pages are used without a pattern, told by where it begins.
func patterned(from uint64, pages int) api.Space {
	s := of(pages)
	w := from*2 + 1
	for n := 2; n < pages; n++ {
		w = w*6364136223846793005 + 1442695040888963407
		s.Used[n] = w>>63 == 1
	}
	return s
}

// everyOf are all spaces of few pages.
func everyOf(pages int) []api.Space {
	var l []api.Space
	for bits := range 1 << (pages - 2) {
		s := of(pages)
		for n := 2; n < pages; n++ {
			s.Used[n] = bits>>(n-2)&1 == 1
		}
		l = append(l, s)
	}
	return l
}

// some are spaces that may be, of all kinds.
func some() []api.Space {
	l := everyOf(8)
	for _, pages := range sizes() {
		l = append(l, of(pages), of(pages, 2), of(pages, pages-1), fullOf(pages), fullOf(pages, 2), fullOf(pages, pages-1), fullOf(pages, pages/2))
		for from := range uint64(3) {
			l = append(l, patterned(from, pages))
		}
	}
	return l
}

// wrong are spaces that may not be, by what is wrong.
func wrong() map[string]api.Space {
	m := map[string]api.Space{
		"the zero space":               {},
		"Used nil":                     {Pages: 8},
		"Used of no page":              {Pages: 8, Used: []bool{}},
		"Used of 0 and 1 alone":        {Pages: 8, Used: []bool{true, true}},
		"one less":                     {Pages: 9, Used: slices.Repeat([]bool{true}, 8)},
		"one more":                     {Pages: 8, Used: slices.Repeat([]bool{true}, 9)},
		"one less, of free ones":       {Pages: 9, Used: of(8).Used},
		"one more, a free one":         {Pages: 8, Used: of(9).Used},
		"twice as many":                {Pages: 8, Used: of(16).Used},
		"none, with spare room":        {Pages: 8, Used: of(8).Used[:0]},
		"one less, with spare room":    {Pages: 4096, Used: of(4096).Used[:4095]},
		"Used, but no Pages":           {Used: of(8).Used},
		"Pages below MinPages":         {Pages: 7, Used: of(7).Used},
		"all used, below MinPages":     {Pages: 7, Used: fullOf(7).Used},
		"Pages above MaxPages":         {Pages: 4097, Used: of(4097).Used},
		"all used, above MaxPages":     {Pages: 4097, Used: fullOf(4097).Used},
		"Pages far above":              {Pages: 8192, Used: of(8192).Used},
		"0 free":                       fullOf(8, 0),
		"1 free":                       fullOf(8, 1),
		"both free":                    fullOf(8, 0, 1),
		"all free":                     {Pages: 8, Used: make([]bool, 8)},
		"0 free, as most are":          {Pages: 9, Used: append([]bool{false, true}, make([]bool, 7)...)},
		"1 free, as most are":          {Pages: 9, Used: append([]bool{true, false}, make([]bool, 7)...)},
		"0 free of the greatest space": fullOf(4096, 0),
		"1 free of the greatest space": fullOf(4096, 1),
	}
	for _, pages := range wrongSizes() {
		m[fmt.Sprint("Used nil, Pages ", pages)] = api.Space{Pages: pages}
		m[fmt.Sprint("Used of 8, Pages ", pages)] = api.Space{Pages: pages, Used: of(8).Used}
		if pages >= 0 && pages < 1<<16 {
			m[fmt.Sprint("all used, Pages ", pages)] = fullOf(pages)
		}
	}
	return m
}

// freeOf and laidOf tell it as the chapter does, written apart from the program's own.
func freeOf(s api.Space) []int {
	var l []int
	for n := range s.Pages {
		if !s.Used[n] {
			l = append(l, n)
		}
	}
	return l
}

func laidOf(s api.Space) []byte {
	bits := new(big.Int)
	for n, used := range s.Used {
		if used {
			bits.SetBit(bits, n, 1)
		}
	}
	body := bits.FillBytes(make([]byte, (s.Pages-1)/8+1))
	slices.Reverse(body)
	return append(binary.LittleEndian.AppendUint32(nil, uint32(s.Pages)), body...)
}

// toldOf is the space whose bytes b are, and whether there is one.
func toldOf(b []byte) (api.Space, bool) {
	if len(b) < 5 {
		return api.Space{}, false
	}
	pages, body := int64(binary.LittleEndian.Uint32(b)), slices.Clone(b[4:])
	if pages < 8 || pages > 4096 || int64(len(body)) != (pages-1)/8+1 {
		return api.Space{}, false
	}
	slices.Reverse(body)
	bits := new(big.Int).SetBytes(body)
	if bits.Bit(0) == 0 || bits.Bit(1) == 0 || bits.BitLen() > int(pages) {
		return api.Space{}, false
	}
	s := api.Space{Pages: int(pages)}
	for n := range s.Pages {
		s.Used = append(s.Used, bits.Bit(n) == 1)
	}
	return s, true
}

// plus and minus are a space with one page used, or free; they share nothing with it.
func plus(s api.Space, n int) api.Space {
	s.Used = slices.Clone(s.Used)
	s.Used[n] = true
	return s
}

func minus(s api.Space, n int) api.Space {
	s.Used = slices.Clone(s.Used)
	s.Used[n] = false
	return s
}

// same holds each page against each other one, so that no test leans on Same.
func same(a, b api.Space) bool {
	if a.Pages != b.Pages || len(a.Used) != len(b.Used) {
		return false
	}
	for n := range a.Used {
		if a.Used[n] != b.Used[n] {
			return false
		}
	}
	return true
}

func wantErr(t *testing.T, about any, err, want api.Errno) {
	t.Helper()
	if err != want {
		t.Errorf("%v: error %d, want %d", about, err, want)
	}
}

// wantSpace takes what a call answers behind the first argument.
func wantSpace(t *testing.T, about any, s api.Space, err api.Errno, want api.Space) {
	t.Helper()
	if err != api.OK || !same(s, want) {
		t.Errorf("%v: error %d, %v, want %v", about, err, s, want)
	}
}

func wantNoSpace(t *testing.T, about any, s api.Space, err, want api.Errno) {
	t.Helper()
	if err != want || s.Pages != 0 || len(s.Used) != 0 {
		t.Errorf("%v: error %d, %v, want error %d and nothing", about, err, s, want)
	}
}

func wantTake(t *testing.T, about any, s api.Space, want int) api.Space {
	t.Helper()
	n, next, err := Take(s)
	if n != want {
		t.Errorf("%v: Take answers %d, want %d", about, n, want)
	}
	wantSpace(t, about, next, err, plus(s, want))
	return next
}

func wantNoTake(t *testing.T, about any, s api.Space, want api.Errno) {
	t.Helper()
	n, next, err := Take(s)
	if n != 0 {
		t.Errorf("%v: Take answers %d beside an error", about, n)
	}
	wantNoSpace(t, about, next, err, want)
}

func wantUse(t *testing.T, about any, s api.Space, page int) api.Space {
	t.Helper()
	next, err := Use(s, page)
	wantSpace(t, about, next, err, plus(s, page))
	return next
}

func wantNoUse(t *testing.T, about any, s api.Space, page int, want api.Errno) {
	t.Helper()
	next, err := Use(s, page)
	wantNoSpace(t, about, next, err, want)
}

func wantGive(t *testing.T, about any, s api.Space, page int) api.Space {
	t.Helper()
	next, err := Give(s, page)
	wantSpace(t, about, next, err, minus(s, page))
	return next
}

func wantNoGive(t *testing.T, about any, s api.Space, page int, want api.Errno) {
	t.Helper()
	next, err := Give(s, page)
	wantNoSpace(t, about, next, err, want)
}

func wantFree(t *testing.T, about any, s api.Space, want ...int) {
	t.Helper()
	if l := Free(s); !slices.Equal(l, want) {
		t.Errorf("%v: Free: %v, want %v", about, l, want)
	}
	if n := Count(s); n != len(want) {
		t.Errorf("%v: Count: %d, want %d", about, n, len(want))
	}
}

func wantBytes(t *testing.T, about any, s api.Space, want []byte) {
	t.Helper()
	if b, err := Bytes(s); err != api.OK || !bytes.Equal(b, want) {
		t.Errorf("%v: Bytes: error %d, %x, want %x", about, err, b, want)
	}
}

func wantRead(t *testing.T, about any, b []byte, want api.Space) {
	t.Helper()
	s, err := Read(b)
	wantSpace(t, about, s, err, want)
}

func wantNoRead(t *testing.T, about any, b []byte) {
	t.Helper()
	s, err := Read(b)
	wantNoSpace(t, about, s, err, api.ErrBad)
}

// wantReadAs holds Read against what toldOf tells.
func wantReadAs(t *testing.T, about any, b []byte) {
	t.Helper()
	if s, is := toldOf(b); is {
		wantRead(t, about, b, s)
		return
	}
	wantNoRead(t, about, b)
}

func wantSame(t *testing.T, about any, a, b api.Space, want bool) {
	t.Helper()
	if Same(a, b) != want || Same(b, a) != want {
		t.Errorf("%v: Same %v, %v, want %v", about, Same(a, b), Same(b, a), want)
	}
}

// unhex reads bytes as the chapter writes them.
func unhex(t *testing.T, text string) []byte {
	t.Helper()
	b, err := hex.DecodeString(text)
	if err != nil {
		t.Fatal(err)
	}
	return b
}

// The chapter's examples.

func TestExamples(t *testing.T) {
	s, err := New(8)
	wantErr(t, "New", err, api.OK)
	n, s, err := Take(s)
	if n != 2 || err != api.OK {
		t.Errorf("the first Take: %d, error %d", n, err)
	}
	n, s, err = Take(s)
	if n != 3 || err != api.OK {
		t.Errorf("the second Take: %d, error %d", n, err)
	}
	wantBytes(t, "behind both", s, unhex(t, "080000000f"))
	wantRead(t, "behind both", unhex(t, "080000000f"), of(8, 2, 3))
	wantNoRead(t, "0 is free", unhex(t, "080000000e"))
}

// P8.1: New, Check, Take, Use, Give, Both, Free, Count, Same.

func TestLimits(t *testing.T) {
	if api.MinPages != 8 || api.MaxPages != 4096 {
		t.Error("other limits than the document's")
	}
}

func TestNew(t *testing.T) {
	for _, pages := range sizes() {
		s, err := New(pages)
		wantSpace(t, pages, s, err, of(pages))
		wantErr(t, pages, Check(s), api.OK)
		if n := Count(s); n != pages-2 {
			t.Errorf("%d pages: %d are free", pages, n)
		}
	}
	for pages := 8; pages <= 4096; pages++ {
		if s, err := New(pages); err != api.OK || s.Pages != pages || len(s.Used) != pages {
			t.Errorf("%d pages: error %d, %d and %d pages", pages, err, s.Pages, len(s.Used))
		}
	}
	for _, pages := range wrongSizes() {
		s, err := New(pages)
		wantNoSpace(t, pages, s, err, api.ErrArg)
	}
}

func TestCheck(t *testing.T) {
	for i, s := range some() {
		wantErr(t, i, Check(s), api.OK)
	}
	for about, s := range wrong() {
		wantErr(t, about, Check(s), api.ErrArg)
	}
	// What lies in the spare room is no page.
	for _, pages := range []int{8, 9, 4096} {
		long := fullOf(pages + 9)
		wantErr(t, "spare room", Check(api.Space{Pages: pages, Used: long.Used[:pages]}), api.OK)
		wantErr(t, "as it is", Check(api.Space{Pages: pages, Used: long.Used}), api.ErrArg)
	}
}

// Each call of a space that may not be, whatever else it is given.
func TestSpacesThatMayNotBe(t *testing.T) {
	for about, s := range wrong() {
		wantNoTake(t, about, s, api.ErrArg)
		for _, n := range []int{-1, 0, 1, 2, 3, 6, 7, 8, 9, 4095, 4096, s.Pages - 1, s.Pages, len(s.Used) - 1, len(s.Used), math.MaxInt64, math.MinInt64} {
			wantNoUse(t, about, s, n, api.ErrArg)
			wantNoGive(t, about, s, n, api.ErrArg)
		}
		for _, other := range []api.Space{s, of(8), of(9), of(4096), {Pages: 8}, {}} {
			next, err := Both(s, other)
			wantNoSpace(t, about, next, err, api.ErrArg)
			next, err = Both(other, s)
			wantNoSpace(t, about, next, err, api.ErrArg)
		}
		if s.Pages >= 8 && s.Pages <= 4096 {
			next, err := Both(s, fullOf(s.Pages))
			wantNoSpace(t, about, next, err, api.ErrArg)
			next, err = Both(fullOf(s.Pages), s)
			wantNoSpace(t, about, next, err, api.ErrArg)
		}
		wantFree(t, about, s)
		if b, err := Bytes(s); err != api.ErrArg || len(b) != 0 {
			t.Errorf("%s: Bytes: error %d, %x", about, err, b)
		}
	}
}

func TestTake(t *testing.T) {
	for i, s := range some() {
		free := freeOf(s)
		if len(free) == 0 {
			wantNoTake(t, i, s, api.ErrFull)
			continue
		}
		wantTake(t, i, s, free[0])
	}
	for _, pages := range sizes() {
		wantNoTake(t, pages, fullOf(pages), api.ErrFull)
		for n := 2; n < pages; n++ {
			wantTake(t, pages, fullOf(pages, n), n)
			wantTake(t, pages, fullOf(pages, n, pages-1), n)
		}
		wantTake(t, pages, of(pages), 2)
		wantNoTake(t, pages, wantTake(t, pages, fullOf(pages, pages-1), pages-1), api.ErrFull)
	}
}

func TestUse(t *testing.T) {
	for _, pages := range sizes() {
		for from := range uint64(2) {
			s := patterned(from, pages)
			for n, used := range s.Used {
				if used {
					wantNoUse(t, n, s, n, api.ErrThere)
					continue
				}
				wantUse(t, n, s, n)
			}
		}
		for _, s := range []api.Space{of(pages), fullOf(pages)} {
			for _, n := range []int{-1, -2, -8, pages, pages + 1, pages + 8, 2 * pages, 1 << 32, 1<<32 + 2, math.MaxInt64, math.MinInt64, math.MinInt64 + 2} {
				wantNoUse(t, n, s, n, api.ErrArg)
			}
			// 0 and 1 are pages, and used.
			wantNoUse(t, 0, s, 0, api.ErrThere)
			wantNoUse(t, 1, s, 1, api.ErrThere)
		}
		wantUse(t, "the last one", of(pages), pages-1)
		wantNoUse(t, "the last one", fullOf(pages, 2), pages-1, api.ErrThere)
	}
}

func TestGive(t *testing.T) {
	for _, pages := range sizes() {
		for from := range uint64(2) {
			s := patterned(from, pages)
			for n := 2; n < pages; n++ {
				if !s.Used[n] {
					wantNoGive(t, n, s, n, api.ErrNone)
					continue
				}
				wantGive(t, n, s, n)
			}
		}
		for _, s := range []api.Space{of(pages), fullOf(pages)} {
			for _, n := range []int{0, 1, -1, -2, -8, pages, pages + 1, pages + 8, 2 * pages, 1 << 32, 1<<32 + 2, math.MaxInt64, math.MinInt64, math.MinInt64 + 2} {
				wantNoGive(t, n, s, n, api.ErrArg)
			}
		}
		wantGive(t, "the last one", fullOf(pages), pages-1)
		wantNoGive(t, "the last one", of(pages), pages-1, api.ErrNone)
	}
}

// A page in the spare room is none.
func TestSpareRoomHasNoPage(t *testing.T) {
	for _, long := range []api.Space{of(20), fullOf(20)} {
		s := api.Space{Pages: 12, Used: long.Used[:12]}
		for n := 12; n < 20; n++ {
			wantNoUse(t, n, s, n, api.ErrArg)
			wantNoGive(t, n, s, n, api.ErrArg)
		}
	}
	wantNoTake(t, "free ones in the spare room", api.Space{Pages: 8, Used: fullOf(12, 9, 10).Used[:8]}, api.ErrFull)
	wantFree(t, "free ones in the spare room", api.Space{Pages: 8, Used: fullOf(12, 5, 9, 10).Used[:8]}, 5)
	wantBytes(t, "used ones in the spare room", api.Space{Pages: 12, Used: fullOf(20, 11).Used[:12]}, unhex(t, "0c000000ff07"))
}

func TestBoth(t *testing.T) {
	every := everyOf(8)
	for i, a := range every {
		for j, b := range every {
			want := of(8)
			for n := range 8 {
				want.Used[n] = a.Used[n] || b.Used[n]
			}
			s, err := Both(a, b)
			wantSpace(t, [2]int{i, j}, s, err, want)
		}
	}
	for _, pages := range sizes() {
		a, b := patterned(1, pages), patterned(2, pages)
		want := of(pages)
		for n := range pages {
			want.Used[n] = a.Used[n] || b.Used[n]
		}
		s, err := Both(a, b)
		wantSpace(t, pages, s, err, want)
		s, err = Both(b, a)
		wantSpace(t, pages, s, err, want)
		for _, x := range []struct {
			about      string
			a, b, want api.Space
		}{
			{"nothing and nothing", of(pages), of(pages), of(pages)},
			{"nothing and all", of(pages), fullOf(pages), fullOf(pages)},
			{"all and nothing", fullOf(pages), of(pages), fullOf(pages)},
			{"all and all", fullOf(pages), fullOf(pages), fullOf(pages)},
			{"one and nothing", patterned(3, pages), of(pages), patterned(3, pages)},
			{"nothing and one", of(pages), patterned(3, pages), patterned(3, pages)},
			{"one and itself", patterned(3, pages), patterned(3, pages), patterned(3, pages)},
			{"the first and the last", of(pages, 2), of(pages, pages-1), of(pages, 2, pages-1)},
		} {
			s, err := Both(x.a, x.b)
			wantSpace(t, x.about, s, err, x.want)
		}
	}
}

func TestBothOfUnlikePages(t *testing.T) {
	for _, first := range sizes() {
		for _, second := range sizes() {
			if first == second {
				continue
			}
			for _, a := range []api.Space{of(first), fullOf(first)} {
				for _, b := range []api.Space{of(second), fullOf(second)} {
					s, err := Both(a, b)
					wantNoSpace(t, [2]int{first, second}, s, err, api.ErrArg)
				}
			}
		}
	}
}

func TestFreeAndCount(t *testing.T) {
	for i, s := range some() {
		wantFree(t, i, s, freeOf(s)...)
	}
	for _, s := range everyOf(9) {
		wantFree(t, s, s, freeOf(s)...)
	}
	wantFree(t, "a new one", of(8), 2, 3, 4, 5, 6, 7)
	wantFree(t, "the ends", fullOf(9, 2, 8), 2, 8)
	for _, pages := range sizes() {
		wantFree(t, pages, fullOf(pages))
		wantFree(t, pages, fullOf(pages, pages-1), pages-1)
	}
}

func TestSame(t *testing.T) {
	every := everyOf(8)
	for i, a := range every {
		for j, b := range every {
			wantSame(t, [2]int{i, j}, a, b, i == j)
		}
	}
	for _, pages := range sizes() {
		s := patterned(5, pages)
		wantSame(t, pages, s, patterned(5, pages), true)
		for n := range pages {
			other := minus(s, n)
			other.Used[n] = !s.Used[n]
			wantSame(t, n, s, other, false)
		}
		wantSame(t, "another Pages", s, api.Space{Pages: pages + 1, Used: s.Used}, false)
		wantSame(t, "one page less", s, api.Space{Pages: pages, Used: s.Used[:pages-1]}, false)
		wantSame(t, "one page more", s, api.Space{Pages: pages, Used: append(slices.Clone(s.Used), false)}, false)
	}
}

// Same is of any: those that may not be, too.
func TestSameOfSpacesThatMayNotBe(t *testing.T) {
	wantSame(t, "nil and none", api.Space{Pages: 8}, api.Space{Pages: 8, Used: []bool{}}, true)
	wantSame(t, "the zero space", api.Space{}, api.Space{Used: []bool{}}, true)
	wantSame(t, "none, with spare room", api.Space{Pages: 3}, api.Space{Pages: 3, Used: of(8).Used[:0]}, true)
	wantSame(t, "0 free", fullOf(8, 0), fullOf(8, 0), true)
	wantSame(t, "0 free, or 1", fullOf(8, 0), fullOf(8, 1), false)
	wantSame(t, "Pages below 0", api.Space{Pages: -1, Used: []bool{true}}, api.Space{Pages: -1, Used: []bool{true}}, true)
	wantSame(t, "unlike Pages without Used", api.Space{Pages: 1}, api.Space{Pages: 2}, false)
	wantSame(t, "Used longer than Pages", api.Space{Pages: 1, Used: []bool{true, true}}, api.Space{Pages: 1, Used: []bool{true, false}}, false)
	l := wrong()
	for first, a := range l {
		for second, b := range l {
			wantSame(t, [2]string{first, second}, a, b, same(a, b))
		}
		wantSame(t, first, a, api.Space{Pages: a.Pages, Used: slices.Clone(a.Used)}, true)
		wantSame(t, first, a, of(8), false)
	}
}

// P8.2: Bytes, Read.

// The bits' places, spelt out.
func TestBytesSpelt(t *testing.T) {
	for _, x := range []struct {
		s    api.Space
		want string
	}{
		{of(8), "0800000003"},
		{of(8, 2), "0800000007"},
		{of(8, 7), "0800000083"},
		{fullOf(8), "08000000ff"},
		{of(9), "090000000300"},
		{of(9, 8), "090000000301"},
		{fullOf(9), "09000000ff01"},
		{fullOf(12, 5, 11), "0c000000df07"},
		{of(15, 14), "0f0000000340"},
		{fullOf(15), "0f000000ff7f"},
		{of(16), "100000000300"},
		{of(16, 15), "100000000380"},
		{of(17, 8, 16), "11000000030101"},
		{of(17, 15), "11000000038000"},
		{of(255, 2, 254), "ff00000007" + hex.EncodeToString(make([]byte, 30)) + "40"},
		{of(256, 255), "0001000003" + hex.EncodeToString(make([]byte, 30)) + "80"},
		{of(4096, 4095), "0010000003" + hex.EncodeToString(make([]byte, 510)) + "80"},
		{of(4089, 4088), "f90f000003" + hex.EncodeToString(make([]byte, 510)) + "01"},
	} {
		wantBytes(t, x.want, x.s, unhex(t, x.want))
		wantRead(t, x.want, unhex(t, x.want), x.s)
	}
}

func TestBytes(t *testing.T) {
	for i, s := range some() {
		wantBytes(t, i, s, laidOf(s))
		wantRead(t, i, laidOf(s), s)
	}
	for _, pages := range []int{8, 9, 15, 16, 17, 24, 64, 257} {
		for n := 2; n < pages; n++ {
			for _, s := range []api.Space{of(pages, n), fullOf(pages, n)} {
				wantBytes(t, n, s, laidOf(s))
				wantRead(t, n, laidOf(s), s)
			}
		}
	}
}

// Each body that bytes of few pages may have.
func TestReadOfEachBody(t *testing.T) {
	for pages := 8; pages <= 16; pages++ {
		bodies := 1 << 16
		if pages == 8 {
			bodies = 1 << 8
		}
		for body := range bodies {
			b := []byte{byte(pages), 0, 0, 0, byte(body), byte(body >> 8)}[:4+(pages+7)/8]
			if _, is := toldOf(b); is != (body&3 == 3 && body>>pages == 0) {
				t.Fatalf("%x: %v", b, is)
			}
			wantReadAs(t, body, b)
		}
	}
}

func TestReadOfAnotherLength(t *testing.T) {
	for _, pages := range sizes() {
		for _, s := range []api.Space{of(pages), fullOf(pages)} {
			right := laidOf(s)
			for n := range right {
				wantNoRead(t, n, right[:n])
			}
			for more := 1; more < 10; more++ {
				wantNoRead(t, more, append(slices.Clone(right), make([]byte, more)...))
				wantNoRead(t, more, append(slices.Clone(right), bytes.Repeat([]byte{0xff}, more)...))
			}
			wantNoRead(t, "twice", slices.Concat(right, right))
			wantNoRead(t, "a byte ahead", append([]byte{0}, right...))
		}
	}
	for _, b := range [][]byte{nil, {}, {8}, {8, 0, 0}, {8, 0, 0, 0}} {
		wantNoRead(t, b, b)
	}
	// Bytes of spare room are none.
	b := laidOf(fullOf(9))
	wantNoRead(t, "spare room", b[:len(b)-1])
	wantRead(t, "spare room", append(slices.Clone(b), 7)[:len(b)], fullOf(9))
}

// As many bytes as Pages asks for stand in each of these, the right bits too: what is wrong is Pages itself.
func TestReadOfPagesOutOfBounds(t *testing.T) {
	for _, pages := range []uint32{0, 1, 2, 3, 7, 4097, 4098, 4104, 5000, 8192, 1 << 16, 1<<16 + 8} {
		for _, bits := range []uint32{(pages + 7) / 8, 1, 512, 513} {
			b := append(binary.LittleEndian.AppendUint32(nil, pages), make([]byte, bits)...)
			if bits > 0 {
				b[4] = 3
			}
			wantNoRead(t, pages, b)
		}
	}
	for _, pages := range []uint32{1<<24 + 8, 1 << 31, 1<<31 + 8, math.MaxInt32, math.MaxUint32, math.MaxUint32 - 7} {
		for _, bits := range []int{0, 1, 2, 512} {
			b := append(binary.LittleEndian.AppendUint32(nil, pages), make([]byte, bits)...)
			if bits > 0 {
				b[4] = 3
			}
			wantNoRead(t, pages, b)
		}
	}
	wantNoRead(t, "the other end first", unhex(t, "0000000803"))
}

func TestReadOfBitsBeyondTheLastPage(t *testing.T) {
	for _, pages := range sizes() {
		for _, s := range []api.Space{of(pages), fullOf(pages), patterned(4, pages)} {
			right := laidOf(s)
			for bit := pages; bit < 8*(len(right)-4); bit++ {
				b := slices.Clone(right)
				b[4+bit/8] |= 1 << (bit % 8)
				wantNoRead(t, bit, b)
			}
			if pages%8 != 0 {
				b := slices.Clone(right)
				b[len(b)-1] |= 0xff << (pages % 8)
				wantNoRead(t, "all of them", b)
			}
		}
	}
}

func TestReadOfFreeRoots(t *testing.T) {
	for _, pages := range sizes() {
		for _, s := range []api.Space{of(pages), fullOf(pages), patterned(4, pages)} {
			for missing := byte(1); missing <= 3; missing++ {
				b := laidOf(s)
				b[4] &^= missing
				wantNoRead(t, missing, b)
			}
		}
	}
}

// A bit turned makes another space, or none; never the same.
func TestReadOfEachBitTurned(t *testing.T) {
	for _, pages := range []int{8, 9, 12, 15, 16, 17, 100, 4095, 4096} {
		s := patterned(6, pages)
		right := laidOf(s)
		for bit := range 8 * len(right) {
			b := slices.Clone(right)
			b[bit/8] ^= 1 << (bit % 8)
			wantReadAs(t, bit, b)
			if got, err := Read(b); err == api.OK && same(got, s) {
				t.Errorf("%x: the same space", b)
			}
		}
	}
	// Pages of like length, spelt out.
	wantRead(t, "9 as 10", unhex(t, "0a000000ff01"), fullOf(10, 9))
	wantNoRead(t, "10 as 9", unhex(t, "09000000ff03"))
	wantRead(t, "16 as 15", unhex(t, "0f000000ff7f"), fullOf(15))
}

// P8.3: what follows.

func TestGiveUndoesUse(t *testing.T) {
	for i, s := range some() {
		for _, n := range freeOf(s) {
			if next := wantGive(t, i, wantUse(t, i, s, n), n); !Same(next, s) {
				t.Fatalf("%d: Give of %d leaves %v, not %v", i, n, next, s)
			}
			if s.Pages > 100 && n > 100 {
				break
			}
		}
	}
}

func TestGiveUndoesTake(t *testing.T) {
	for i, s := range some() {
		n, next, err := Take(s)
		if err == api.ErrFull {
			continue
		}
		if back := wantGive(t, i, next, n); !Same(back, s) {
			t.Errorf("%d: Give of %d leaves %v, not %v", i, n, back, s)
		}
	}
}

func TestUseUndoesGive(t *testing.T) {
	for i, s := range everyOf(10) {
		for n := 2; n < 10; n++ {
			if s.Used[n] && !Same(wantUse(t, i, wantGive(t, i, s, n), n), s) {
				t.Errorf("%d: Use of %d leaves another space", i, n)
			}
		}
	}
}

func TestSoManyTakesAsCount(t *testing.T) {
	for i, s := range some() {
		if s.Pages > 1000 && i%5 != 0 {
			continue
		}
		free, taken := Free(s), []int(nil)
		for range Count(s) {
			n, next, err := Take(s)
			if err != api.OK || Count(next) != Count(s)-1 {
				t.Fatalf("%d: Take answers error %d, and leaves %d of %d", i, err, Count(next), Count(s))
			}
			taken, s = append(taken, n), next
		}
		if !slices.Equal(taken, free) {
			t.Errorf("%d: %v were taken, %v were free", i, taken, free)
		}
		wantNoTake(t, i, s, api.ErrFull)
		wantFree(t, i, s)
		if !Same(s, fullOf(s.Pages)) {
			t.Errorf("%d: %v is left", i, s)
		}
	}
}

// What is free in both's is free in both.
func TestBothIsInBoths(t *testing.T) {
	for _, pages := range sizes() {
		for from := range uint64(4) {
			a, b := patterned(from, pages), patterned(from+9, pages)
			s, err := Both(a, b)
			wantErr(t, pages, err, api.OK)
			free := slices.DeleteFunc(freeOf(a), func(n int) bool { return b.Used[n] })
			wantFree(t, pages, s, free...)
			for _, part := range []api.Space{a, b, s} {
				again, err := Both(s, part)
				wantSpace(t, pages, again, err, s)
			}
			other, err := Both(b, a)
			wantSpace(t, pages, other, err, s)
		}
	}
}

func TestReadOfBytesIsTheSpace(t *testing.T) {
	for i, s := range some() {
		b, err := Bytes(s)
		wantErr(t, i, err, api.OK)
		wantRead(t, i, b, s)
	}
	seen := map[string]bool{}
	for pages := 8; pages <= 12; pages++ {
		for _, s := range everyOf(pages) {
			b, _ := Bytes(s)
			if seen[string(b)] {
				t.Errorf("%x are two spaces' bytes", b)
			}
			seen[string(b)] = true
		}
	}
}

// Rule 3: what is handed in is never changed, and an answer is of its own.

// roomy is a space with spare room that has marks: used pages where there are none.
func roomy(s api.Space) (api.Space, []bool) {
	whole := append(slices.Clone(s.Used), true, false, true, true, false)
	return api.Space{Pages: s.Pages, Used: whole[:len(s.Used)]}, whole
}

// spoil writes over all that a list has, its spare room too.
func spoil(l []bool) {
	l = l[:cap(l)]
	for i := range l {
		l[i] = !l[i]
	}
}

// changers are all calls that answer a space made of another one.
func changers() map[string]func(s api.Space) (api.Space, api.Errno) {
	return map[string]func(s api.Space) (api.Space, api.Errno){
		"Take": func(s api.Space) (api.Space, api.Errno) {
			_, next, err := Take(s)
			return next, err
		},
		"Use":             func(s api.Space) (api.Space, api.Errno) { return Use(s, 5) },
		"Use of the last": func(s api.Space) (api.Space, api.Errno) { return Use(s, s.Pages-1) },
		"Give":            func(s api.Space) (api.Space, api.Errno) { return Give(s, 4) },
		"Both, first":     func(s api.Space) (api.Space, api.Errno) { return Both(s, of(s.Pages, 2, 3)) },
		"Both, second":    func(s api.Space) (api.Space, api.Errno) { return Both(of(s.Pages, 2, 3), s) },
		"Both, nothing":   func(s api.Space) (api.Space, api.Errno) { return Both(s, of(s.Pages)) },
		"Both of itself":  func(s api.Space) (api.Space, api.Errno) { return Both(s, s) },
		"Both, all":       func(s api.Space) (api.Space, api.Errno) { return Both(fullOf(s.Pages), s) },
	}
}

func TestWhatIsHandedInIsLeftAsItIs(t *testing.T) {
	for about, call := range changers() {
		for _, pages := range []int{8, 13, 16, 4096} {
			was := of(pages, 2, 4)
			s, whole := roomy(was)
			before := slices.Clone(whole)
			next, err := call(s)
			if err != api.OK {
				t.Fatalf("%s: error %d", about, err)
			}
			if !slices.Equal(whole, before) {
				t.Errorf("%s: what was handed in is changed", about)
			}
			spoil(next.Used)
			if !slices.Equal(whole, before) {
				t.Errorf("%s: the answer shares memory with what was handed in", about)
			}
		}
	}
}

func TestAnswersKeepNothing(t *testing.T) {
	for about, call := range changers() {
		for _, pages := range []int{8, 13, 16, 4096} {
			s, whole := roomy(of(pages, 2, 4))
			next, _ := call(s)
			want := slices.Clone(next.Used)
			spoil(whole)
			if !slices.Equal(next.Used, want) {
				t.Errorf("%s: the answer changes with what was handed in", about)
			}
		}
	}
	// The second one of Both, whatever the first one is.
	for _, first := range []api.Space{of(9), fullOf(9), of(9, 3)} {
		b, whole := roomy(of(9, 8))
		before := slices.Clone(whole)
		next, _ := Both(first, b)
		want := slices.Clone(next.Used)
		spoil(whole)
		if !slices.Equal(next.Used, want) {
			t.Error("Both's answer changes with the second one")
		}
		spoil(whole)
		spoil(next.Used)
		if !slices.Equal(whole, before) {
			t.Error("Both's answer shares memory with the second one")
		}
	}
}

func TestAnswersAreApart(t *testing.T) {
	for about, call := range changers() {
		s := of(13, 2, 4)
		a, _ := call(s)
		b, _ := call(s)
		want := slices.Clone(b.Used)
		spoil(a.Used)
		if !slices.Equal(b.Used, want) {
			t.Errorf("%s: two answers share memory", about)
		}
	}
	a, _ := New(9)
	b, _ := New(9)
	spoil(a.Used)
	wantSpace(t, "New", b, api.OK, of(9))
	b, err := New(9)
	wantSpace(t, "New again", b, err, of(9))
}

// The calls that only look leave all as it is, and answer lists of their own.
func TestLooksLeaveTheSpace(t *testing.T) {
	for _, was := range []api.Space{of(9, 3), fullOf(9), fullOf(4096, 7), fullOf(8, 0), {Pages: 9, Used: of(8).Used}} {
		s, whole := roomy(was)
		before := slices.Clone(whole)
		Check(s)
		for range 2 {
			l := Free(s)
			l = l[:cap(l)]
			for i := range l {
				l[i] = -1
			}
			b, _ := Bytes(s)
			clear(b[:cap(b)])
		}
		Count(s)
		Same(s, s)
		Same(s, was)
		if !slices.Equal(whole, before) {
			t.Errorf("%v: it is changed", was)
		}
		if Check(was) == api.OK {
			wantFree(t, was, s, freeOf(was)...)
			wantBytes(t, was, s, laidOf(was))
		}
	}
}

// Errors leave it as it is too.
func TestErrorsLeaveTheSpace(t *testing.T) {
	for _, was := range []api.Space{fullOf(9), of(9, 2, 8), fullOf(9, 0), {Pages: 9, Used: of(8).Used}} {
		s, whole := roomy(was)
		before := slices.Clone(whole)
		for n := -1; n < 12; n++ {
			if _, err := Use(s, n); err == api.OK && was.Used[n] {
				t.Errorf("%v: Use of %d is well", was, n)
			}
			if _, err := Give(s, n); err == api.OK && !was.Used[n] {
				t.Errorf("%v: Give of %d is well", was, n)
			}
		}
		Take(s)
		Both(s, of(8))
		Both(of(8), s)
		Both(s, api.Space{Pages: 9})
		if !slices.Equal(whole, before) {
			t.Errorf("%v: it is changed", was)
		}
	}
}

func TestReadLeavesItsBytes(t *testing.T) {
	for _, right := range [][]byte{laidOf(of(9, 3)), laidOf(fullOf(4096)), {9, 0, 0, 0, 2, 0}, {9, 0, 0, 0, 3}} {
		whole := append(slices.Clone(right), 1, 2, 3)
		before := slices.Clone(whole)
		s, err := Read(whole[:len(right)])
		want := slices.Clone(s.Used)
		if !bytes.Equal(whole, before) {
			t.Errorf("%x: the bytes are changed", right)
		}
		clear(whole)
		if !slices.Equal(s.Used, want) {
			t.Errorf("%x: the answer changes with the bytes", right)
		}
		again, other := Read(before[:len(right)])
		if other != err {
			t.Errorf("%x: error %d, then %d", right, err, other)
		}
		spoil(s.Used)
		if !slices.Equal(again.Used, want) {
			t.Errorf("%x: two answers share memory", right)
		}
	}
}

// Scripts, held against a plain set of pages.

// held plays one call, told by a byte, on a space and on the set of its used pages, and answers the space that follows.
func held(t *testing.T, s api.Space, used map[int]bool, x byte, n int) api.Space {
	t.Helper()
	is := n >= 0 && n < s.Pages
	switch x % 4 {
	case 0:
		least := 2
		for used[least] {
			least++
		}
		if least >= s.Pages {
			wantNoTake(t, "a script", s, api.ErrFull)
			return s
		}
		used[least] = true
		return wantTake(t, "a script", s, least)
	case 1:
		switch {
		case !is:
			wantNoUse(t, n, s, n, api.ErrArg)
			return s
		case used[n]:
			wantNoUse(t, n, s, n, api.ErrThere)
			return s
		}
		used[n] = true
		return wantUse(t, n, s, n)
	case 2:
		switch {
		case !is || n < 2:
			wantNoGive(t, n, s, n, api.ErrArg)
			return s
		case !used[n]:
			wantNoGive(t, n, s, n, api.ErrNone)
			return s
		}
		delete(used, n)
		return wantGive(t, n, s, n)
	}
	other := patterned(uint64(n+9), s.Pages)
	if n%3 != 0 {
		other = of(s.Pages)
	}
	for page, is := range other.Used {
		if is {
			used[page] = true
		}
	}
	next, err := Both(s, other)
	wantErr(t, n, err, api.OK)
	return next
}

func play(t *testing.T, pages int, script []byte) {
	t.Helper()
	s, err := New(pages)
	if pages < 8 || pages > 4096 {
		wantNoSpace(t, pages, s, err, api.ErrArg)
		return
	}
	wantErr(t, pages, err, api.OK)
	used := map[int]bool{0: true, 1: true}
	for i := 0; i+1 < len(script); i += 2 {
		s = held(t, s, used, script[i], int(script[i+1])*(pages+8)/256-4)
		want := of(pages)
		for n := range used {
			want.Used[n] = true
		}
		wantSpace(t, i, s, api.OK, want)
		wantErr(t, i, Check(s), api.OK)
		wantFree(t, i, s, freeOf(want)...)
		wantBytes(t, i, s, laidOf(want))
		wantRead(t, i, laidOf(want), want)
	}
}

func TestScripts(t *testing.T) {
	for _, pages := range []int{8, 9, 12, 16, 33, 200} {
		for from := range uint64(40) {
			script := make([]byte, 120)
			w := from*2 + uint64(pages)<<20 + 1
			for i := range script {
				w = w*6364136223846793005 + 1442695040888963407
				script[i] = byte(w >> 56)
				// Both fills a space up: it comes seldom.
				if i%2 == 0 && script[i]%4 == 3 && w>>40&15 != 0 {
					script[i]--
				}
			}
			play(t, pages, script)
		}
	}
}

// Whatever the bytes, Read ends, with a space that has just these bytes, or with ErrBad.
func FuzzSpace(f *testing.F) {
	f.Add([]byte{8, 0, 0, 0, 15}, uint16(8))
	f.Add([]byte{9, 0, 0, 0, 255, 1}, uint16(9))
	f.Add([]byte{0, 16, 0, 0, 3}, uint16(4096))
	f.Add(laidOf(patterned(1, 100)), uint16(7))
	f.Fuzz(func(t *testing.T, b []byte, pages uint16) {
		wantReadAs(t, "any bytes", b)
		if s, err := Read(b); err == api.OK {
			wantErr(t, "what was read", Check(s), api.OK)
			wantBytes(t, "what was read", s, b)
			wantFree(t, "what was read", s, freeOf(s)...)
		}
		if len(b) > 400 {
			b = b[:400]
		}
		play(t, int(pages)%4200, b)
	})
}
