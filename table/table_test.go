package table

import (
	"bytes"
	"encoding/binary"
	"encoding/hex"
	"fmt"
	"maps"
	"math"
	"slices"
	"testing"

	"tallyman/api"
)

// The limits, as the chapter says them.
const (
	most = 65536 // logical pages
	end  = 4096  // the page behind the last one
)

// of is a table of these pages, whether it may be or not.
func of(phys ...int) api.Table {
	return api.Table{Phys: phys}
}

// alone is a table in which just one logical page stands somewhere.
func alone(n, page int) api.Table {
	x := of(make([]int, n+1)...)
	x.Phys[n] = page
	return x
}

// rising is a table without a hole, of the pages from 2 on.
func rising(length int) api.Table {
	x := of(make([]int, length)...)
	for n := range x.Phys {
		x.Phys[n] = n + 2
	}
	return x
}

// falling is one from the last page down.
func falling(length int) api.Table {
	x := of(make([]int, length)...)
	for n := range x.Phys {
		x.Phys[n] = end - 1 - n
	}
	return x
}

// spread has all pages, on logical pages as far apart as can be, the last one among them.
func spread() api.Table {
	x := of(make([]int, most)...)
	for page := 2; page < end; page++ {
		x.Phys[most-1-(page-2)*16] = page
	}
	return x
}

// dice are numbers without a pattern, told by where they begin.
func dice(from uint64) func(n int) int {
	w := from*2 + 1
	return func(n int) int {
		w = w*6364136223846793005 + 1442695040888963407
		return int(w>>33) % n
	}
}

// patterned is a table without a pattern, with holes; at most 4000 long.
func patterned(from uint64, length int) api.Table {
	roll := dice(from)
	pages := rising(end - 2).Phys
	x := of(make([]int, length)...)
	for n := range x.Phys {
		i := n + roll(len(pages)-n)
		pages[n], pages[i] = pages[i], pages[n]
		if roll(3) > 0 || n == length-1 {
			x.Phys[n] = pages[n]
		}
	}
	return x
}

// everyList are all lists of few numbers.
func everyList(length int, numbers ...int) [][]int {
	if length == 0 {
		return [][]int{nil}
	}
	var all [][]int
	for _, l := range everyList(length-1, numbers...) {
		for _, n := range numbers {
			all = append(all, append(slices.Clone(l), n))
		}
	}
	return all
}

// every are all tables of at most four logical pages on few pages.
func every() []api.Table {
	var all []api.Table
	for length := range 5 {
		for _, l := range everyList(length, 0, 2, 3, 300, 4095) {
			if x := of(l...); mayBe(x) {
				all = append(all, x)
			}
		}
	}
	return all
}

// great are tables that may be, at the limits.
func great() []api.Table {
	return []api.Table{rising(end - 2), falling(end - 2), spread(), alone(most-1, 2), alone(most-1, 4095), alone(most-2, 9)}
}

// some are tables that may be, of all kinds.
func some() []api.Table {
	l := append(every(), great()...)
	for _, length := range []int{1, 2, 5, 16, 127, 128, 129, 1000, 4000} {
		l = append(l, rising(length), falling(length), alone(length-1, 77))
		for from := range uint64(3) {
			l = append(l, patterned(from, length))
		}
	}
	return l
}

// wrong are tables that may not be, by what is wrong.
func wrong() map[string]api.Table {
	m := map[string]api.Table{
		"a last page of 0":                of(9, 0),
		"0 alone":                         of(0),
		"many 0 alone":                    of(0, 0, 0),
		"many 0 at the end":               of(9, 4, 0, 0, 0),
		"a page twice":                    of(9, 9),
		"a page twice, apart":             of(9, 4, 0, 3, 9),
		"a page twice, not the first one": of(9, 4, 4, 5),
		"a page thrice":                   of(4, 4, 4),
		"two pages twice":                 of(4, 5, 4, 5),
		"the last page twice":             of(4095, 2, 4095),
		"the least page twice":            of(2, 0, 2),
		"one more than MaxLogical":        alone(most, 9),
		"noughts beyond MaxLogical":       of(append(alone(most-1, 9).Phys, 0)...),
		"MaxLogical noughts":              of(make([]int, most)...),
		"more noughts than MaxLogical":    of(make([]int, most+1)...),
		"twice MaxLogical":                alone(2*most-1, 9),
		"a page twice, far out":           of(append(alone(most-2, 9).Phys, 9)...),
		"a page of 1, far out":            of(append(alone(most-2, 9).Phys, 1)...),
		"more than there are pages":       rising(end - 1),
		"all pages, one of them twice":    of(append(rising(end-2).Phys, 2)...),
		"all pages, the last one twice":   of(append(rising(end-2).Phys, 4095)...),
		"0 at the end of all pages":       of(append(rising(end-2).Phys, 0)...),
	}
	for _, page := range wrongPages() {
		if page == 0 {
			continue
		}
		m[fmt.Sprint("alone page ", page)] = of(page)
		m[fmt.Sprint("first page ", page)] = of(page, 9)
		m[fmt.Sprint("last page ", page)] = of(9, 0, page)
		m[fmt.Sprint("between, page ", page)] = of(9, page, 4)
	}
	return m
}

// wrongPages are pages that no logical page stands on.
func wrongPages() []int {
	return []int{0, 1, -1, -2, -9, -4095, -4096, end, end + 1, end + 2, 2 * end, 65535, 65536, 1 << 32, 1<<32 + 2, 1<<32 + 9, math.MaxInt, math.MaxInt32, math.MinInt, math.MinInt + 2, math.MinInt32}
}

// wrongLogical are numbers that no logical page has.
func wrongLogical() []int {
	return []int{-1, -2, -3, -9, -most, most, most + 1, most + 2, 2 * most, 1 << 32, 1<<32 + 2, math.MaxInt, math.MaxInt32, math.MinInt, math.MinInt + 2, math.MinInt32}
}

// mayBe tells a table that may be, as the chapter does, written apart from the program's own.
func mayBe(x api.Table) bool {
	length := len(x.Phys)
	if length == 0 {
		return true
	}
	sorted := slices.DeleteFunc(slices.Sorted(slices.Values(x.Phys)), func(page int) bool { return page == 0 })
	if length > most || x.Phys[length-1] == 0 {
		return false
	}
	for i, page := range sorted {
		if page < 2 || page > end-1 || i > 0 && sorted[i-1] == page {
			return false
		}
	}
	return true
}

// spots are where the logical pages of a table stand that stand somewhere; tableOf is the table of spots.
func spots(x api.Table) map[int]int {
	m := map[int]int{}
	for n, page := range x.Phys {
		if page != 0 {
			m[n] = page
		}
	}
	return m
}

func tableOf(m map[int]int) api.Table {
	length := 0
	for n := range m {
		length = max(length, n+1)
	}
	x := of(make([]int, length)...)
	for n, page := range m {
		x.Phys[n] = page
	}
	return x
}

// with and without are a table in which one logical page stands elsewhere, or nowhere; they share nothing with it.
func with(x api.Table, n, page int) api.Table {
	m := spots(x)
	m[n] = page
	return tableOf(m)
}

func without(x api.Table, n int) api.Table {
	m := spots(x)
	delete(m, n)
	return tableOf(m)
}

// laidOf are a table's bytes, laid down by the library's own numbers.
func laidOf(x api.Table) []byte {
	b := binary.AppendUvarint(nil, uint64(len(x.Phys)))
	for _, page := range x.Phys {
		b = binary.AppendUvarint(b, uint64(page))
	}
	return b
}

// toldOf is the table whose bytes b are, and whether there is one.
func toldOf(b []byte) (api.Table, bool) {
	var l []uint64
	for rest := b; len(rest) > 0; {
		n, size := binary.Uvarint(rest)
		if size <= 0 || n > most {
			return api.Table{}, false
		}
		l, rest = append(l, n), rest[size:]
	}
	if len(l) == 0 || l[0] != uint64(len(l)-1) {
		return api.Table{}, false
	}
	var x api.Table
	for _, n := range l[1:] {
		x.Phys = append(x.Phys, int(n))
	}
	return x, mayBe(x) && bytes.Equal(laidOf(x), b)
}

// told is a table short enough to be printed.
func told(x api.Table) string {
	if len(x.Phys) > 20 {
		return fmt.Sprint(x.Phys[:20], " and on, ", len(x.Phys), " in all")
	}
	return fmt.Sprint(x.Phys)
}

func wantErr(t *testing.T, about any, err, want api.Errno) {
	t.Helper()
	if err != want {
		t.Errorf("%v: error %d, want %d", about, err, want)
	}
}

func wantTable(t *testing.T, about any, x api.Table, err api.Errno, want api.Table) {
	t.Helper()
	if err != api.OK || !slices.Equal(x.Phys, want.Phys) {
		t.Errorf("%v: error %d, %s, want %s", about, err, told(x), told(want))
	}
}

func wantNoTable(t *testing.T, about any, x api.Table, err, want api.Errno) {
	t.Helper()
	if err != want || len(x.Phys) != 0 {
		t.Errorf("%v: error %d, %s, want error %d and nothing", about, err, told(x), want)
	}
}

func wantSet(t *testing.T, about any, x api.Table, n, page int) api.Table {
	t.Helper()
	next, err := Set(x, n, page)
	wantTable(t, fmt.Sprint(about, ": Set ", n, " to ", page), next, err, with(x, n, page))
	return next
}

func wantNoSet(t *testing.T, about any, x api.Table, n, page int, want api.Errno) {
	t.Helper()
	next, err := Set(x, n, page)
	wantNoTable(t, fmt.Sprint(about, ": Set ", n, " to ", page), next, err, want)
}

func wantClear(t *testing.T, about any, x api.Table, n int) api.Table {
	t.Helper()
	next, err := Clear(x, n)
	wantTable(t, fmt.Sprint(about, ": Clear ", n), next, err, without(x, n))
	return next
}

func wantNoClear(t *testing.T, about any, x api.Table, n int, want api.Errno) {
	t.Helper()
	next, err := Clear(x, n)
	wantNoTable(t, fmt.Sprint(about, ": Clear ", n), next, err, want)
}

func wantGet(t *testing.T, about any, x api.Table, n, want int) {
	t.Helper()
	if page, is := Get(x, n); page != want || is != (want != 0) {
		t.Errorf("%v: Get %d: %d, %v, want %d", about, n, page, is, want)
	}
}

func wantFind(t *testing.T, about any, x api.Table, page, want int) {
	t.Helper()
	if n, is := Find(x, page); n != want || !is {
		t.Errorf("%v: Find %d: %d, %v, want %d", about, page, n, is, want)
	}
}

func wantNoFind(t *testing.T, about any, x api.Table, page int) {
	t.Helper()
	if n, is := Find(x, page); n != 0 || is {
		t.Errorf("%v: Find %d: %d, %v, want none", about, page, n, is)
	}
}

func wantFresh(t *testing.T, about any, x api.Table, want int) {
	t.Helper()
	if n, err := Fresh(x); n != want || err != api.OK {
		t.Errorf("%v: Fresh: %d, error %d, want %d", about, n, err, want)
	}
}

func wantNoFresh(t *testing.T, about any, x api.Table, want api.Errno) {
	t.Helper()
	if n, err := Fresh(x); n != 0 || err != want {
		t.Errorf("%v: Fresh: %d, error %d, want error %d", about, n, err, want)
	}
}

func wantPages(t *testing.T, about any, x api.Table, want ...int) {
	t.Helper()
	if l := Pages(x); !slices.Equal(l, want) {
		t.Errorf("%v: Pages: %s, want %s", about, told(of(l...)), told(of(want...)))
	}
	if n := Count(x); n != len(want) {
		t.Errorf("%v: Count: %d, want %d", about, n, len(want))
	}
}

func wantBytes(t *testing.T, about any, x api.Table, want []byte) {
	t.Helper()
	if b, err := Bytes(x); err != api.OK || !bytes.Equal(b, want) {
		t.Errorf("%v: Bytes: error %d, %.60x, want %.60x", about, err, b, want)
	}
}

func wantRead(t *testing.T, about any, b []byte, want api.Table) {
	t.Helper()
	x, err := Read(b)
	wantTable(t, about, x, err, want)
}

func wantNoRead(t *testing.T, about any, b []byte) {
	t.Helper()
	x, err := Read(b)
	wantNoTable(t, about, x, err, api.ErrBad)
}

// wantReadAs holds Read against what toldOf tells.
func wantReadAs(t *testing.T, about any, b []byte) {
	t.Helper()
	if x, is := toldOf(b); is {
		wantRead(t, about, b, x)
		return
	}
	wantNoRead(t, about, b)
}

// unhex reads bytes as the chapter writes them.
func unhex(t *testing.T, text string) []byte {
	t.Helper()
	b, err := hex.DecodeString(text)
	if err != nil {
		t.Fatal(err)
	}
	return b
}

// The chapter's examples.

func TestExamples(t *testing.T) {
	x, err := Set(api.Table{}, 2, 9)
	wantTable(t, "Set 2 to page 9", x, err, of(0, 0, 9))
	wantFresh(t, "Set 2 to page 9", x, 0)
	wantBytes(t, "Set 2 to page 9", x, unhex(t, "03000009"))
	wantRead(t, "Set 2 to page 9", unhex(t, "03000009"), of(0, 0, 9))
	x, err = Clear(x, 2)
	wantTable(t, "Clear 2", x, err, of())
	wantBytes(t, "Clear 2", x, unhex(t, "00"))
	wantRead(t, "Clear 2", unhex(t, "00"), of())
}

// P10.1: Check, Get, Set, Clear, Fresh, Pages, Find, Count.

func TestLimits(t *testing.T) {
	if api.MaxLogical != most || api.MaxPages != end {
		t.Error("other limits than the document's")
	}
}

func TestCheck(t *testing.T) {
	for i, x := range some() {
		wantErr(t, fmt.Sprint(i, told(x)), Check(x), api.OK)
	}
	for about, x := range wrong() {
		wantErr(t, about, Check(x), api.ErrArg)
	}
	// Those at each edge, spelt out.
	for _, x := range []api.Table{{}, {Phys: nil}, {Phys: []int{}}, of(2), of(4095), of(0, 0, 2), of(0, 4095), of(0, 2, 0, 0, 3), alone(most-1, 9)} {
		wantErr(t, told(x), Check(x), api.OK)
	}
	for _, x := range []api.Table{of(0), of(2, 0), of(1), of(4096), of(-1), of(-2), of(2, 2), of(2, 0, 2), of(0, 0), alone(most, 9)} {
		wantErr(t, told(x), Check(x), api.ErrArg)
	}
}

func TestCheckOfEachShortList(t *testing.T) {
	for length := range 5 {
		for _, l := range everyList(length, 0, 1, 2, 3, 4095, 4096, -1) {
			want := api.ErrArg
			if mayBe(of(l...)) {
				want = api.OK
			}
			wantErr(t, l, Check(of(l...)), want)
		}
	}
}

// Every page may stand anywhere, and none of them twice.
func TestCheckOfEachPage(t *testing.T) {
	for page := -10; page < end+10; page++ {
		is := page >= 2 && page < end
		want := api.ErrArg
		if is {
			want = api.OK
		}
		wantErr(t, page, Check(of(page)), want)
		wantErr(t, page, Check(of(0, 0, page)), want)
		wantErr(t, page, Check(of(page, page)), api.ErrArg)
		wantErr(t, page, Check(of(page, 0, page)), api.ErrArg)
	}
	all := rising(end - 2)
	for n := 1; n < len(all.Phys); n += 97 {
		x := of(slices.Clone(all.Phys)...)
		x.Phys[n] = x.Phys[n-1]
		wantErr(t, n, Check(x), api.ErrArg)
	}
}

// Each call of a table that may not be, whatever else it is given.
func TestTablesThatMayNotBe(t *testing.T) {
	for about, x := range wrong() {
		for _, n := range append(wrongLogical(), 0, 1, 2, 3, 9, most-1, len(x.Phys)-1, len(x.Phys), len(x.Phys)+1) {
			wantGet(t, about, x, n, 0)
			wantNoClear(t, about, x, n, api.ErrArg)
			for _, page := range []int{0, 1, 2, 4, 9, 77, 4095, 4096, -1} {
				wantNoSet(t, about, x, n, page, api.ErrArg)
			}
		}
		for _, page := range append(wrongPages(), 2, 3, 4, 5, 9, 77, 4095) {
			wantNoFind(t, about, x, page)
		}
		wantNoFresh(t, about, x, api.ErrArg)
		wantPages(t, about, x)
		if b, err := Bytes(x); err != api.ErrArg || len(b) != 0 {
			t.Errorf("%s: Bytes: error %d, %x", about, err, b)
		}
	}
}

// A table with nothing is one, nil and empty.
func TestNothing(t *testing.T) {
	for about, x := range map[string]api.Table{"zero": {}, "nil": {Phys: nil}, "empty": {Phys: []int{}}, "empty, with spare room": {Phys: []int{9, 4, 0}[:0]}} {
		wantErr(t, about, Check(x), api.OK)
		for _, n := range append(wrongLogical(), 0, 1, 2, most-1) {
			wantGet(t, about, x, n, 0)
			wantNoClear(t, about, x, n, api.ErrNone)
		}
		for _, page := range append(wrongPages(), 2, 4, 9, 4095) {
			wantNoFind(t, about, x, page)
		}
		wantFresh(t, about, x, 0)
		wantPages(t, about, x)
		wantBytes(t, about, x, []byte{0})
		for _, n := range []int{0, 1, 2, 3, most - 1} {
			for _, page := range []int{2, 9, 4095} {
				wantClear(t, about, wantSet(t, about, x, n, page), n)
			}
		}
	}
}

func TestGet(t *testing.T) {
	for i, x := range some() {
		step := 1 + len(x.Phys)/40
		for n := 0; n < len(x.Phys); n += step {
			wantGet(t, i, x, n, x.Phys[n])
		}
		if last := len(x.Phys) - 1; last >= 0 {
			wantGet(t, i, x, last, x.Phys[last])
		}
		for _, n := range append(wrongLogical(), len(x.Phys), len(x.Phys)+1) {
			wantGet(t, i, x, n, 0)
		}
	}
	wantGet(t, "the last one that may be", alone(most-1, 9), most-1, 9)
	wantGet(t, "one ahead of it", alone(most-1, 9), most-2, 0)
	wantGet(t, "one behind it", alone(most-1, 9), most, 0)
	wantGet(t, "behind the end", of(9), most-1, 0)
}

func TestSet(t *testing.T) {
	for i, x := range append(every(), patterned(1, 9), patterned(2, 30)) {
		m, stand := spots(x), map[int]int{}
		for n, page := range m {
			stand[page] = n
		}
		for n := -1; n < len(x.Phys)+4; n++ {
			for _, page := range append(slices.Collect(maps.Keys(stand)), 2, 3, 4, 300, 301, 4094, 4095) {
				switch there, is := stand[page]; {
				case n < 0:
					wantNoSet(t, i, x, n, page, api.ErrArg)
				case is && there != n:
					wantNoSet(t, i, x, n, page, api.ErrThere)
				default:
					wantSet(t, i, x, n, page)
				}
			}
		}
	}
}

func TestSetOfNoLogicalPageOrNoPage(t *testing.T) {
	for i, x := range []api.Table{{}, of(9), of(2, 0, 9), of(0, 0, 4095), patterned(1, 100), alone(most-1, 9), spread()} {
		for _, n := range wrongLogical() {
			for _, page := range []int{2, 9, 5, 4095, 0, 1, 4096, -1} {
				wantNoSet(t, i, x, n, page, api.ErrArg)
			}
		}
		for _, page := range wrongPages() {
			for _, n := range []int{0, 1, 2, len(x.Phys), len(x.Phys) + 1, most - 1} {
				wantNoSet(t, i, x, n, page, api.ErrArg)
			}
		}
	}
}

// Spelt out, so that no test leans on what was written apart alone.
func TestSetInPlainWords(t *testing.T) {
	for _, x := range []struct {
		about   string
		x       api.Table
		n, page int
		want    api.Table
	}{
		{"the first one", of(), 0, 5, of(5)},
		{"the first one, far out", of(), 3, 5, of(0, 0, 0, 5)},
		{"a hole", of(9, 0, 4), 1, 5, of(9, 5, 4)},
		{"a hole at the beginning", of(0, 4), 0, 2, of(2, 4)},
		{"right behind the end", of(9, 4), 2, 4095, of(9, 4, 4095)},
		{"behind the end", of(9, 4), 4, 5, of(9, 4, 0, 0, 5)},
		{"there already", of(9, 0, 4), 2, 4, of(9, 0, 4)},
		{"there already, the first one", of(9, 0, 4), 0, 9, of(9, 0, 4)},
		{"elsewhere", of(9, 0, 4), 0, 5, of(5, 0, 4)},
		{"elsewhere, the last one", of(9, 0, 4), 2, 5, of(9, 0, 5)},
		{"elsewhere, the only one", of(9), 0, 2, of(2)},
	} {
		next, err := Set(x.x, x.n, x.page)
		wantTable(t, x.about, next, err, x.want)
	}
	for _, x := range []struct {
		about   string
		x       api.Table
		n, page int
		want    api.Errno
	}{
		{"another one stands there", of(9, 0, 4), 0, 4, api.ErrThere},
		{"another one stands there, of a hole", of(9, 0, 4), 1, 9, api.ErrThere},
		{"another one stands there, behind the end", of(9, 0, 4), 7, 4, api.ErrThere},
		{"another one stands there, at MaxLogical", of(9, 0, 4), most - 1, 9, api.ErrThere},
		{"MaxLogical, where another one stands", of(9, 0, 4), most, 9, api.ErrArg},
		{"MaxLogical", of(9, 0, 4), most, 5, api.ErrArg},
		{"below 0", of(9, 0, 4), -1, 5, api.ErrArg},
		{"below 0, where another one stands", of(9, 0, 4), -1, 4, api.ErrArg},
		{"no page", of(9, 0, 4), 1, 1, api.ErrArg},
		{"the page behind the last one", of(9, 0, 4), 1, 4096, api.ErrArg},
		{"0 of a hole", of(9, 0, 4), 1, 0, api.ErrArg},
		{"0 of one that stands", of(9, 0, 4), 0, 0, api.ErrArg},
		{"0 of the last one", of(9, 0, 4), 2, 0, api.ErrArg},
		{"0 behind the end", of(9, 0, 4), 3, 0, api.ErrArg},
		{"a negative page", of(9, 0, 4), 1, -9, api.ErrArg},
	} {
		wantNoSet(t, x.about, x.x, x.n, x.page, x.want)
	}
}

func TestSetFarBehindTheEnd(t *testing.T) {
	for i, x := range []api.Table{{}, of(9), of(0, 0, 4), patterned(3, 200), rising(end - 3)} {
		for _, n := range []int{len(x.Phys), len(x.Phys) + 1, 5000, 40000, most - 2, most - 1} {
			next := wantSet(t, i, x, n, 4095)
			if len(next.Phys) != n+1 {
				t.Errorf("%d: %d logical pages behind Set of %d", i, len(next.Phys), n)
			}
			wantErr(t, i, Check(next), api.OK)
			wantGet(t, i, next, n, 4095)
			wantFind(t, i, next, 4095, n)
		}
	}
	// Where all pages stand, each of them is another one's.
	all := rising(end - 2)
	for page := 2; page < end; page += 31 {
		wantNoSet(t, "all pages", all, end-2, page, api.ErrThere)
		wantSet(t, "all pages", all, page-2, page)
	}
	x := wantSet(t, "a table of MaxLogical", alone(most-1, 9), 0, 4)
	wantSet(t, "a table of MaxLogical", x, most-1, 5)
	wantNoSet(t, "a table of MaxLogical", x, most, 5, api.ErrArg)
}

func TestClear(t *testing.T) {
	for i, x := range some() {
		step := 1 + len(x.Phys)/8
		for n := 0; n < len(x.Phys); n += step {
			if x.Phys[n] == 0 {
				wantNoClear(t, i, x, n, api.ErrNone)
				continue
			}
			wantErr(t, i, Check(wantClear(t, i, x, n)), api.OK)
		}
		if last := len(x.Phys) - 1; last >= 0 {
			wantErr(t, i, Check(wantClear(t, i, x, last)), api.OK)
		}
		for _, n := range append(wrongLogical(), len(x.Phys), len(x.Phys)+1) {
			wantNoClear(t, i, x, n, api.ErrNone)
		}
	}
}

func TestClearInPlainWords(t *testing.T) {
	for _, x := range []struct {
		about string
		x     api.Table
		n     int
		want  api.Table
	}{
		{"the first one", of(9, 4), 0, of(0, 4)},
		{"between", of(9, 4, 5), 1, of(9, 0, 5)},
		{"the last one", of(9, 4), 1, of(9)},
		{"the last one behind a nought", of(9, 0, 4), 2, of(9)},
		{"the last one behind noughts", of(9, 3, 0, 0, 0, 4), 5, of(9, 3)},
		{"the one ahead of the last one", of(9, 3, 0, 4), 1, of(9, 0, 0, 4)},
		{"the last one, noughts further ahead", of(0, 0, 3, 4), 3, of(0, 0, 3)},
		{"the only one", of(9), 0, of()},
		{"the only one behind noughts", of(0, 0, 9), 2, of()},
		{"the only one, as far out as can be", alone(most-1, 9), most - 1, of()},
	} {
		next, err := Clear(x.x, x.n)
		wantTable(t, x.about, next, err, x.want)
	}
	for _, n := range []int{1, 3, 4, 9, most - 1, most, most + 1, -1, math.MinInt, math.MaxInt} {
		wantNoClear(t, "none", of(9, 0, 4), n, api.ErrNone)
	}
}

// One by one, from either end, till nothing is left.
func TestClearOfAll(t *testing.T) {
	for _, was := range []api.Table{rising(40), falling(200), patterned(5, 100), of(0, 0, 0, 9, 0, 3, 0, 0, 2)} {
		x, y := was, was
		for n := range was.Phys {
			if was.Phys[n] != 0 {
				x = wantClear(t, "rising", x, n)
			}
			if back := len(was.Phys) - 1 - n; was.Phys[back] != 0 {
				y = wantClear(t, "falling", y, back)
			}
		}
		wantTable(t, "rising", x, api.OK, of())
		wantTable(t, "falling", y, api.OK, of())
	}
}

func TestFresh(t *testing.T) {
	for i, x := range some() {
		if len(x.Phys) == most {
			wantNoFresh(t, i, x, api.ErrFull)
			continue
		}
		m, least := spots(x), 0
		for m[least] != 0 {
			least++
		}
		wantFresh(t, i, x, least)
	}
	for _, x := range []struct {
		about string
		x     api.Table
		want  int
	}{
		{"nothing", of(), 0},
		{"no hole", of(9, 4, 2), 3},
		{"a hole", of(9, 0, 2), 1},
		{"a hole at the beginning", of(0, 9), 0},
		{"two holes", of(9, 4, 0, 5, 0, 7), 2},
		{"all pages", rising(end - 2), end - 2},
		{"one less than MaxLogical", alone(most-2, 9), 0},
	} {
		wantFresh(t, x.about, x.x, x.want)
	}
	// With MaxLogical it is full, though there are holes; one less, and it is not.
	x := spread()
	wantNoFresh(t, "MaxLogical", x, api.ErrFull)
	wantNoFresh(t, "MaxLogical, but for the last one all are none", alone(most-1, 2), api.ErrFull)
	wantFresh(t, "one less than MaxLogical", wantClear(t, "spread", x, most-1), 0)
}

// So many logical pages as there are pages are fresh, one behind the other.
func TestFreshTillAllPagesStand(t *testing.T) {
	x := of()
	for page := 2; page < end; page += 1 + page/40 {
		n, err := Fresh(x)
		if err != api.OK || n != len(x.Phys) {
			t.Fatalf("%d is fresh, error %d, of %s", n, err, told(x))
		}
		x = wantSet(t, page, x, n, page)
	}
	for _, n := range []int{0, 5, 60} {
		y := wantClear(t, n, x, n)
		wantFresh(t, n, y, n)
		wantSet(t, n, y, n, x.Phys[n])
	}
}

func TestPagesAndCount(t *testing.T) {
	for i, x := range some() {
		m := spots(x)
		var want []int
		for _, n := range slices.Sorted(maps.Keys(m)) {
			want = append(want, m[n])
		}
		wantPages(t, i, x, want...)
	}
	wantPages(t, "nothing", of())
	wantPages(t, "without holes", of(9, 4, 300), 9, 4, 300)
	wantPages(t, "with holes", of(0, 9, 0, 0, 4, 300, 0, 2), 9, 4, 300, 2)
	wantPages(t, "far out", alone(most-1, 4095), 4095)
	wantPages(t, "0 last, it may not be", of(9, 4, 0))
	wantPages(t, "a page twice, it may not be", of(9, 4, 9))
}

func TestFind(t *testing.T) {
	for i, x := range some() {
		stand := map[int]int{}
		for n, page := range spots(x) {
			stand[page] = n + 1
		}
		step := 1 + len(x.Phys)/40
		for page := 2; page < end; page += step {
			if stand[page] == 0 {
				wantNoFind(t, i, x, page)
				continue
			}
			wantFind(t, i, x, page, stand[page]-1)
		}
		for _, page := range wrongPages() {
			wantNoFind(t, i, x, page)
		}
	}
	for want, page := range []int{9, 4, 2, 4095} {
		wantFind(t, "without holes", of(9, 4, 2, 4095), page, want)
		wantFind(t, "with holes", of(0, 9, 0, 4, 0, 2, 0, 4095), page, 2*want+1)
	}
	wantFind(t, "the first one", of(9, 0, 4), 9, 0)
	wantFind(t, "far out", alone(most-1, 4095), 4095, most-1)
	wantNoFind(t, "not there", of(9, 0, 4), 5)
	wantNoFind(t, "0, with holes", of(9, 0, 4), 0)
	wantNoFind(t, "0, without holes", of(9, 4), 0)
	wantNoFind(t, "negative", of(9, 0, 4), -9)
}

// What lies in the spare room is no logical page.
func TestSpareRoomHasNoLogicalPage(t *testing.T) {
	whole := []int{9, 0, 4, 5, 0, 9, 1, -3}
	x := of(whole[:3]...)
	wantErr(t, "spare room", Check(x), api.OK)
	wantGet(t, "spare room", x, 3, 0)
	wantNoClear(t, "spare room", x, 3, api.ErrNone)
	wantNoFind(t, "spare room", x, 5)
	wantSet(t, "spare room", x, 1, 5)
	wantSet(t, "spare room", x, 3, 3)
	wantSet(t, "spare room", x, 5, 3)
	wantSet(t, "spare room", x, 7, 3)
	wantClear(t, "spare room", x, 2)
	wantPages(t, "spare room", x, 9, 4)
	wantFresh(t, "spare room", of(whole[:1]...), 1)
	wantBytes(t, "spare room", x, unhex(t, "03090004"))
	wantErr(t, "0 last", Check(of(whole[:2]...)), api.ErrArg)
	long := alone(most, 9)
	long.Phys[3] = 8
	wantErr(t, "0 last", Check(of(long.Phys[:most]...)), api.ErrArg)
	wantErr(t, "far more than MaxLogical behind it", Check(api.Table{Phys: long.Phys[:4]}), api.OK)
}

// P10.2: Bytes, Read.

func TestBytes(t *testing.T) {
	for i, x := range some() {
		wantBytes(t, i, x, laidOf(x))
	}
	for about, x := range wrong() {
		if b, err := Bytes(x); err != api.ErrArg || len(b) != 0 {
			t.Errorf("%s: Bytes: error %d, %x", about, err, b)
		}
	}
	for text, x := range map[string]api.Table{
		"00":             of(),
		"0102":           of(2),
		"01ff1f":         of(4095),
		"017f":           of(127),
		"018001":         of(128),
		"0509000400ac02": of(9, 0, 4, 0, 300),
		"020003":         of(0, 3),
	} {
		wantBytes(t, text, x, unhex(t, text))
		wantRead(t, text, unhex(t, text), x)
	}
	b, _ := Bytes(rising(128))
	if !bytes.Equal(b[:4], []byte{0x80, 0x01, 2, 3}) || !bytes.Equal(b[len(b)-4:], []byte{0x80, 0x01, 0x81, 0x01}) {
		t.Errorf("128 logical pages: %x", b)
	}
	b, _ = Bytes(alone(most-1, 4095))
	if len(b) != 3+most-1+2 || !bytes.Equal(b[:4], []byte{0x80, 0x80, 0x04, 0}) || !bytes.Equal(b[len(b)-3:], []byte{0, 0xff, 0x1f}) {
		t.Errorf("MaxLogical logical pages: %d bytes, %x", len(b), b[:4])
	}
}

// All bytes of few values, up to five of them.
func TestReadOfShortBytes(t *testing.T) {
	values := []int{0, 1, 2, 3, 4, 0x1f, 0x7f, 0x80, 0xff}
	well := 0
	for length := range 6 {
		for _, l := range everyList(length, values...) {
			var b []byte
			for _, n := range l {
				b = append(b, byte(n))
			}
			wantReadAs(t, l, b)
			if _, is := toldOf(b); is {
				well++
			}
		}
	}
	if well < 100 {
		t.Errorf("%d of them alone are tables", well)
	}
	for x := range 1 << 16 {
		wantReadAs(t, x, []byte{byte(x >> 8), byte(x)})
		wantReadAs(t, x, []byte{1, byte(x >> 8), byte(x)})
		wantReadAs(t, x, []byte{2, 9, byte(x >> 8), byte(x)})
	}
}

func TestReadOfTooFewAndTooMany(t *testing.T) {
	for i, x := range []api.Table{of(), of(2), of(9, 0, 4, 0, 300), of(300), patterned(1, 30), rising(130), patterned(2, 300)} {
		right := laidOf(x)
		wantRead(t, i, right, x)
		for short := range len(right) {
			wantNoRead(t, i, right[:short])
			wantNoRead(t, i, slices.Clip(slices.Clone(right[:short])))
		}
		for more := 1; more < 12; more++ {
			wantNoRead(t, i, append(slices.Clone(right), make([]byte, more)...))
			wantNoRead(t, i, append(slices.Clone(right), bytes.Repeat([]byte{7}, more)...))
			wantNoRead(t, i, append(slices.Clone(right), bytes.Repeat([]byte{0x80}, more)...))
		}
		wantNoRead(t, i, slices.Concat(right, right))
	}
	wantNoRead(t, "no bytes", nil)
	wantNoRead(t, "no bytes", []byte{})
	wantNoRead(t, "no bytes, with spare room", unhex(t, "0009")[:0])
	for _, text := range []string{"01", "0209", "03090004ff", "0000", "000000", "0009", "80", "ff", "8080", "0180", "010980", "010900"} {
		wantNoRead(t, text, unhex(t, text))
	}
}

func TestReadOfNumbersLongerThanNeedBe(t *testing.T) {
	for _, text := range []string{
		"8000",          // nothing
		"808000",        // nothing, longer still
		"8100" + "09",   // how many there are
		"818000" + "09", // longer still
		"01" + "8900",   // a page
		"01" + "898000", // longer still
		"01" + "ac8200", // a page of two bytes
		"02" + "8000" + "09",
		"02" + "808000" + "09",
		"03" + "00" + "8000" + "09",
		"02" + "09" + "8400",
		"01" + "ff9f00",
		"01" + "89808080808080808000",
		"81808080808080808000" + "09",
	} {
		wantNoRead(t, text, unhex(t, text))
	}
	// Each number of a table, a byte longer: it tells the same, but is no table's.
	x := of(9, 0, 4, 300, 0, 4095, 128)
	numbers := append([]int{len(x.Phys)}, x.Phys...)
	for long := range numbers {
		var b []byte
		for i, n := range numbers {
			b = binary.AppendUvarint(b, uint64(n))
			if i == long {
				b[len(b)-1] |= 0x80
				b = append(b, 0)
			}
		}
		wantNoRead(t, long, b)
	}
}

// listed are the bytes of these numbers.
func listed(numbers ...uint64) []byte {
	var b []byte
	for _, n := range numbers {
		b = binary.AppendUvarint(b, n)
	}
	return b
}

// Each table that may not be has bytes that are laid down well: what is wrong is the table.
func TestReadOfTablesThatMayNotBe(t *testing.T) {
	for about, x := range wrong() {
		wantNoRead(t, about, laidOf(x))
	}
	for _, page := range []uint64{1, 4096, 4097, 8192, 65535, 65536, 1<<32 + 9, 1 << 32, 1<<63 + 9, 1 << 63, math.MaxUint64, math.MaxUint64 - 1, 1<<63 - 1} {
		wantNoRead(t, page, listed(1, page))
		wantNoRead(t, page, listed(2, 9, page))
		wantNoRead(t, page, listed(2, page, 9))
		wantNoRead(t, page, listed(3, 9, page, 4))
	}
	for name, b := range map[string][]byte{
		"a last page of 0":         listed(1, 0),
		"a last page of 0, of two": listed(2, 9, 0),
		"noughts at the end":       listed(4, 9, 0, 0, 0),
		"a page twice":             listed(2, 9, 9),
		"a page twice, apart":      listed(4, 9, 0, 4, 9),
		"a tenth byte above 1":     unhex(t, "01ffffffffffffffffff02"),
		"how many, a tenth byte":   unhex(t, "ffffffffffffffffff0209"),
	} {
		wantNoRead(t, name, b)
	}
}

func TestReadOfMoreThanMaxLogical(t *testing.T) {
	right := laidOf(alone(most-1, 9))
	wantRead(t, "MaxLogical", right, alone(most-1, 9))
	wantNoRead(t, "one more", laidOf(alone(most, 9)))
	wantNoRead(t, "one more, a nought", append(listed(most+1), append(right[3:len(right):len(right)], 0)...))
	wantNoRead(t, "twice as many", laidOf(alone(2*most-1, 9)))
	// As many as no bytes have.
	for _, n := range []uint64{2, most - 1, most, most + 1, 1 << 31, 1 << 32, 1<<32 + 1, 1 << 40, 1 << 62, 1<<63 - 1, 1 << 63, 1<<63 + 1, math.MaxUint64} {
		wantNoRead(t, n, listed(n))
		wantNoRead(t, n, listed(n, 9))
		wantNoRead(t, n, append(listed(n), 9, 4, 3, 2, 0))
	}
	wantNoRead(t, "MaxLogical, one of them missing", right[:len(right)-1])
	wantNoRead(t, "MaxLogical, and one more", append(slices.Clone(right), 4))
}

// A bit turned makes another table, or none; never the same.
func TestReadOfEachBitTurned(t *testing.T) {
	for _, x := range []api.Table{of(), of(2), of(9, 0, 4, 0, 300), patterned(6, 40), rising(130)} {
		right := laidOf(x)
		for bit := range 8 * len(right) {
			b := slices.Clone(right)
			b[bit/8] ^= 1 << (bit % 8)
			wantReadAs(t, bit, b)
			if got, err := Read(b); err == api.OK && slices.Equal(got.Phys, x.Phys) {
				t.Errorf("%x: the same table", b)
			}
		}
	}
}

// P10.3: what follows.

func TestClearUndoesSet(t *testing.T) {
	for i, x := range some() {
		stand := spots(x)
		free := 0
		for page := 2; page < end && free == 0; page++ {
			if !slices.Contains(x.Phys, page) {
				free = page
			}
		}
		if free == 0 {
			continue
		}
		for _, n := range []int{0, 1, 2, 3, 4, len(x.Phys) / 2, len(x.Phys), len(x.Phys) + 1, len(x.Phys) + 100, 30000, most - 1} {
			if stand[n] != 0 || n >= most {
				continue
			}
			y, err := Set(x, n, free)
			wantErr(t, i, err, api.OK)
			back, err := Clear(y, n)
			wantTable(t, fmt.Sprint(i, ": Clear of ", n), back, err, x)
		}
	}
}

func TestGetTellsWhatWasSetLast(t *testing.T) {
	x := of()
	last := map[int]int{}
	for _, s := range [][2]int{{0, 9}, {0, 4}, {7, 9}, {7, 9}, {3, 2}, {7, 5}, {0, 9}, {most - 1, 4}, {3, 4095}, {most - 1, 2}} {
		next, err := Set(x, s[0], s[1])
		wantErr(t, s, err, api.OK)
		x = next
		last[s[0]] = s[1]
		for _, n := range []int{-1, 0, 1, 2, 3, 4, 6, 7, 8, most - 2, most - 1, most} {
			wantGet(t, s, x, n, last[n])
		}
		for n, page := range last {
			wantFind(t, s, x, page, n)
		}
	}
	// What could not be Set leaves what was.
	if _, err := Set(x, 0, 5); err != api.ErrThere {
		t.Errorf("error %d", err)
	}
	wantGet(t, "behind an error", x, 0, 9)
}

func TestReadOfBytesIsTheTable(t *testing.T) {
	for i, x := range some() {
		b, err := Bytes(x)
		wantErr(t, i, err, api.OK)
		wantRead(t, i, b, x)
	}
	seen := map[string]bool{}
	for _, x := range every() {
		b, _ := Bytes(x)
		if seen[string(b)] {
			t.Errorf("%x are two tables' bytes", b)
		}
		seen[string(b)] = true
	}
}

// Rule 3: what is handed in is never changed, and an answer is of its own.

// roomy is a table with spare room that has marks: pages, and noughts.
func roomy(x api.Table) (api.Table, []int) {
	whole := append(slices.Clone(x.Phys), 7, 0, 8, 2, 0, 4, 4095, 0, 0, 6)
	return api.Table{Phys: whole[:len(x.Phys)]}, whole
}

// spoil writes over all that a list has, its spare room too.
func spoil(l []int) {
	l = l[:cap(l)]
	for i := range l {
		l[i] = -1 - i
	}
}

// before is the table that the changers change: 0 and 4 are none, the last one stands behind noughts.
func before() api.Table { return of(0, 9, 3, 300, 0, 5, 0, 0, 77) }

// changers are all calls that answer a table made of another one.
func changers() map[string]func(x api.Table) (api.Table, api.Errno) {
	set := func(n, page int) func(x api.Table) (api.Table, api.Errno) {
		return func(x api.Table) (api.Table, api.Errno) { return Set(x, n, page) }
	}
	clears := func(n int) func(x api.Table) (api.Table, api.Errno) {
		return func(x api.Table) (api.Table, api.Errno) { return Clear(x, n) }
	}
	return map[string]func(x api.Table) (api.Table, api.Errno){
		"Set of a hole":          set(4, 2),
		"Set of the first one":   set(0, 2),
		"Set elsewhere":          set(1, 2),
		"Set there already":      set(1, 9),
		"Set of the last one":    set(8, 4095),
		"Set behind the end":     set(9, 2),
		"Set further behind":     set(12, 2),
		"Set behind spare room":  set(40, 2),
		"Set far behind the end": set(most-1, 2),
		"Clear":                  clears(2),
		"Clear of the first one": clears(1),
		"Clear of the last one":  clears(8),
	}
}

func TestWhatIsHandedInIsLeftAsItIs(t *testing.T) {
	for about, call := range changers() {
		x, whole := roomy(before())
		was := slices.Clone(whole)
		next, err := call(x)
		if err != api.OK {
			t.Fatalf("%s: error %d", about, err)
		}
		if !slices.Equal(whole, was) {
			t.Errorf("%s: what was handed in is changed", about)
		}
		spoil(next.Phys)
		if !slices.Equal(whole, was) {
			t.Errorf("%s: the answer shares memory with what was handed in", about)
		}
	}
}

func TestAnswersKeepNothing(t *testing.T) {
	for about, call := range changers() {
		x, whole := roomy(before())
		next, _ := call(x)
		want := slices.Clone(next.Phys)
		spoil(whole)
		if !slices.Equal(next.Phys, want) {
			t.Errorf("%s: the answer changes with what was handed in", about)
		}
	}
}

func TestAnswersAreApart(t *testing.T) {
	for about, call := range changers() {
		x := before()
		a, _ := call(x)
		b, _ := call(x)
		c, _ := call(b)
		want, wantC := slices.Clone(b.Phys), slices.Clone(c.Phys)
		spoil(a.Phys)
		if !slices.Equal(b.Phys, want) {
			t.Errorf("%s: two answers share memory", about)
		}
		spoil(b.Phys)
		if !slices.Equal(c.Phys, wantC) {
			t.Errorf("%s: an answer shares memory with the one made of it", about)
		}
		d, err := call(x)
		wantTable(t, about, d, err, api.Table{Phys: want})
	}
}

// Clear leaves nothing of what it was handed in the room that it leaves out.
func TestClearOfAllLeavesNoRoom(t *testing.T) {
	for _, was := range []api.Table{of(9), of(0, 0, 9), alone(most-1, 9)} {
		x, whole := roomy(was)
		before := slices.Clone(whole)
		next, err := Clear(x, len(was.Phys)-1)
		wantTable(t, told(was), next, err, of())
		grown := append(next.Phys, 1, 2, 3, 4)
		spoil(grown)
		if !slices.Equal(whole, before) {
			t.Errorf("%s: the answer shares memory with what was handed in", told(was))
		}
	}
}

// The calls that only look leave all as it is, and answer lists of their own.
func TestLooksLeaveTheTable(t *testing.T) {
	for _, was := range []api.Table{{}, before(), of(9, 4, 3), spread(), of(9, 0), of(9, 9), of(1, 5)} {
		x, whole := roomy(was)
		before := slices.Clone(whole)
		Check(x)
		Fresh(x)
		Count(x)
		for _, n := range []int{-1, 0, 1, len(x.Phys) - 1, len(x.Phys), len(x.Phys) + 2, most} {
			Get(x, n)
			Find(x, n)
		}
		for range 2 {
			spoil(Pages(x))
			b, _ := Bytes(x)
			clear(b[:cap(b)])
		}
		if !slices.Equal(whole, before) {
			t.Errorf("%s: it is changed", told(was))
		}
		if mayBe(was) {
			wantBytes(t, told(was), x, laidOf(was))
			wantPages(t, told(was), x, slices.DeleteFunc(slices.Clone(was.Phys), func(page int) bool { return page == 0 })...)
		}
	}
}

// What Pages and Bytes answered stays as it was, whatever becomes of the table.
func TestListsKeepNothing(t *testing.T) {
	for _, was := range []api.Table{before(), of(9, 4, 3), of(9), rising(4000)} {
		x, whole := roomy(was)
		l, b := Pages(x), laidOf(was)
		got, err := Bytes(x)
		wantErr(t, told(was), err, api.OK)
		want := slices.Clone(l)
		spoil(whole)
		if !slices.Equal(l, want) || !bytes.Equal(got, b) {
			t.Errorf("%s: the answers change with what was handed in", told(was))
		}
	}
}

// Errors leave it as it is too.
func TestErrorsLeaveTheTable(t *testing.T) {
	for _, was := range []api.Table{{}, before(), of(9, 4, 3), of(9, 0), of(9, 9), of(1, 5), alone(most-1, 9)} {
		x, whole := roomy(was)
		before := slices.Clone(whole)
		for _, n := range []int{-1, len(x.Phys), len(x.Phys) + 1, most} {
			if _, err := Clear(x, n); err == api.OK {
				t.Errorf("%s: Clear of %d is well", told(was), n)
			}
			for _, page := range []int{0, 1, 9, end, -1} {
				if _, err := Set(x, n, page); err == api.OK && slices.Contains(was.Phys, page) {
					t.Errorf("%s: Set of %d to %d is well", told(was), n, page)
				}
			}
		}
		if !slices.Equal(whole, before) {
			t.Errorf("%s: it is changed", told(was))
		}
	}
}

func TestReadLeavesItsBytes(t *testing.T) {
	for _, right := range [][]byte{{0}, {3, 0, 0, 9}, laidOf(before()), laidOf(spread()), {2, 9, 0}, {2, 9, 9}, {2, 9}, {1, 9, 9}} {
		whole := append(slices.Clone(right), 1, 2, 3, 0x80)
		before := slices.Clone(whole)
		x, err := Read(whole[:len(right)])
		want := slices.Clone(x.Phys)
		if !bytes.Equal(whole, before) {
			t.Errorf("%.20x: the bytes are changed", right)
		}
		clear(whole)
		if !slices.Equal(x.Phys, want) {
			t.Errorf("%.20x: the answer changes with the bytes", right)
		}
		again, other := Read(before[:len(right)])
		if other != err {
			t.Errorf("%.20x: error %d, then %d", right, err, other)
		}
		spoil(x.Phys)
		if !slices.Equal(again.Phys, want) {
			t.Errorf("%.20x: two answers share memory", right)
		}
	}
}

// Scripts, held against plain spots.

// held plays one call, told by a byte, on a table and on its spots, and answers the table that follows.
func held(t *testing.T, x api.Table, m map[int]int, call byte, n, page int) api.Table {
	t.Helper()
	if call%4 == 0 {
		if n < 0 || m[n] == 0 {
			wantNoClear(t, "a script", x, n, api.ErrNone)
			return x
		}
		next := wantClear(t, "a script", x, n)
		delete(m, n)
		return next
	}
	there := -1
	for other, on := range m {
		if on == page {
			there = other
		}
	}
	switch {
	case n < 0 || page < 2 || page >= end:
		wantNoSet(t, "a script", x, n, page, api.ErrArg)
		return x
	case there >= 0 && there != n:
		wantNoSet(t, "a script", x, n, page, api.ErrThere)
		return x
	}
	next := wantSet(t, "a script", x, n, page)
	m[n] = page
	return next
}

func play(t *testing.T, script []byte) {
	t.Helper()
	x, m := of(), map[int]int{}
	for i := 0; i+2 < len(script); i += 3 {
		n, page := int(script[i+1])%40-2, int(script[i+2])%30
		if script[i+2] > 250 {
			page += end - 12
		}
		x = held(t, x, m, script[i], n, page)
		want := tableOf(m)
		wantTable(t, i, x, api.OK, want)
		wantErr(t, i, Check(x), api.OK)
		wantBytes(t, i, x, laidOf(want))
		wantRead(t, i, laidOf(want), want)
		fresh := 0
		for m[fresh] != 0 {
			fresh++
		}
		wantFresh(t, i, x, fresh)
		var pages []int
		for n := range 45 {
			wantGet(t, i, x, n, m[n])
			if m[n] != 0 {
				pages = append(pages, m[n])
				wantFind(t, i, x, m[n], n)
			}
		}
		wantPages(t, i, x, pages...)
	}
}

func TestScripts(t *testing.T) {
	for from := range uint64(60) {
		roll := dice(from)
		script := make([]byte, 240)
		for i := range script {
			script[i] = byte(roll(256))
		}
		play(t, script)
	}
}

// Whatever the bytes, Read ends, with a table that has just these bytes, or with ErrBad.
func FuzzTable(f *testing.F) {
	f.Add([]byte{0})
	f.Add([]byte{3, 0, 0, 9})
	f.Add([]byte{5, 9, 0, 4, 0, 0xac, 2})
	f.Add([]byte{0x80, 0x80, 4, 9})
	f.Add(laidOf(patterned(1, 100)))
	f.Fuzz(func(t *testing.T, b []byte) {
		wantReadAs(t, "any bytes", b)
		if x, err := Read(b); err == api.OK {
			wantErr(t, "what was read", Check(x), api.OK)
			wantBytes(t, "what was read", x, b)
		}
		if len(b) > 300 {
			b = b[:300]
		}
		play(t, b)
	})
}
