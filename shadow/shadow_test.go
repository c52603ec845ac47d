package shadow

import (
	"bytes"
	"encoding/binary"
	"fmt"
	"hash/crc32"
	"maps"
	"math"
	"slices"
	"testing"

	"tallyman/api"
	"tallyman/sector"
)

// What the chapters say, written apart from the program's own.
const (
	size = 4096
	room = 4080
	link = 4074
)

// plain are bytes without a pattern, told by where they begin; none of them ends with a nought.
func plain(from uint64, n int) []byte {
	b := make([]byte, n)
	for i, w := 0, from*2+1; i < n; i++ {
		w = w*6364136223846793005 + 1442695040888963407
		b[i] = byte(w >> 56)
	}
	if n > 0 {
		b[n-1] |= 1
	}
	return b
}

// kinds are those that a logical page may have.
func kinds() []int { return []int{4, 5, 6, 7} }

func wrongKinds() []int {
	return []int{0, 1, 2, 3, 8, 9, -1, -4, -7, 255, 256 + 4, 256 + 6, 1<<32 + 6, math.MaxInt, math.MinInt, math.MinInt + 6}
}

// noDisks are those that nobody made.
func noDisks() []*sector.Disk { return []*sector.Disk{nil, {}, new(sector.Disk)} }

// noStores are those that nobody made.
func noStores() []*Store { return []*Store{nil, {}, new(Store)} }

// laid is a page as the chapters tell it, by the library's words and sums.
func laid(kind byte, number uint32, body []byte) []byte {
	b := append([]byte{0x54, 0x4d, 1, kind}, make([]byte, size-4)...)
	binary.LittleEndian.PutUint32(b[4:], number)
	copy(b[16:], body)
	binary.LittleEndian.PutUint32(b[12:], crc32.Checksum(b, crc32.MakeTable(crc32.Castagnoli)))
	return b
}

// rootBytes is a root's page, whether it may be or not.
func rootBytes(r api.Root) []byte {
	var b []byte
	for _, n := range []uint64{r.Epoch, r.Pages, r.Table, r.Space, r.Logical, r.Meta[0], r.Meta[1], r.Meta[2], r.Meta[3]} {
		b = binary.LittleEndian.AppendUint64(b, n)
	}
	return laid(1, uint32(r.Epoch), b)
}

// tableBytes are a table's bytes, whether it may be or not.
func tableBytes(phys []int) []byte {
	b := binary.AppendUvarint(nil, uint64(len(phys)))
	for _, n := range phys {
		b = binary.AppendUvarint(b, uint64(n))
	}
	return b
}

// spaceBytes are a space's bytes, whether it may be or not.
func spaceBytes(pages int, used []int) []byte {
	b := append(binary.LittleEndian.AppendUint32(nil, uint32(pages)), make([]byte, (pages+7)/8)...)
	for _, n := range used {
		b[4+n/8] |= 1 << (n % 8)
	}
	return b
}

// need is how many pages a chain of so many bytes has.
func need(n int) int { return (max(n, 1) + link - 1) / link }

// chained are the pages of a chain.
func chained(kind byte, pages []int, b []byte) map[int][]byte {
	l := map[int][]byte{}
	for i, n := range pages {
		part := b[min(i*link, len(b)):min((i+1)*link, len(b))]
		var next uint32
		if i+1 < len(pages) {
			next = uint32(pages[i+1])
		}
		body := binary.LittleEndian.AppendUint32(nil, next)
		body = binary.LittleEndian.AppendUint16(body, uint16(len(part)))
		l[n] = laid(kind, uint32(i), append(body, part...))
	}
	return l
}

// craft is a disk's store by its parts, each of which may be wrong.
type craft struct {
	pages      int
	root       api.Root
	table      []byte
	space      []byte
	tableOn    []int
	spaceOn    []int
	bodies     map[int][]byte // pages' bytes that go over all others
	behind     []byte         // sectors behind the last page
	everything byte           // what stands in all other pages
}

// crafted is a right store of so many pages: where logical pages stand, and on which pages its chains are.
func crafted(pages int, phys, tableOn, spaceOn []int) craft {
	c := craft{pages: pages, tableOn: tableOn, spaceOn: spaceOn, bodies: map[int][]byte{}}
	used := slices.Concat([]int{0, 1}, tableOn, spaceOn)
	for n, at := range phys {
		if at != 0 {
			used = append(used, at)
			c.bodies[at] = laid(6, uint32(n), plain(uint64(n), 40))
		}
	}
	c.table, c.space = tableBytes(phys), spaceBytes(pages, used)
	c.root = api.Root{Epoch: 7, Pages: uint64(pages), Table: uint64(tableOn[0]), Space: uint64(spaceOn[0]), Logical: uint64(len(phys)), Meta: [4]uint64{1, 2, 3, math.MaxUint64}}
	return c
}

// of answers a changed copy.
func (c craft) of(change func(c *craft)) craft {
	c.bodies = maps.Clone(c.bodies)
	c.table, c.space = slices.Clone(c.table), slices.Clone(c.space)
	change(&c)
	return c
}

func (c craft) image() []byte {
	image := bytes.Repeat([]byte{c.everything}, c.pages*size)
	lay := func(n int, b []byte) { copy(image[n*size:(n+1)*size], b) }
	lay(int(c.root.Epoch%2), rootBytes(c.root))
	for n, b := range chained(2, c.tableOn, c.table) {
		lay(n, b)
	}
	for n, b := range chained(3, c.spaceOn, c.space) {
		lay(n, b)
	}
	for n, b := range c.bodies {
		lay(n, b)
	}
	return append(image, c.behind...)
}

func (c craft) disk(t testing.TB) *sector.Disk {
	t.Helper()
	return diskOf(t, c.image())
}

func diskOf(t testing.TB, image []byte) *sector.Disk {
	t.Helper()
	d, err := sector.Of(image)
	if err != api.OK {
		t.Fatalf("a disk of %d bytes: error %d", len(image), err)
	}
	return d
}

func newDisk(t testing.TB, pages int) *sector.Disk {
	t.Helper()
	return diskOf(t, make([]byte, pages*size))
}

// held is what a logical page has.
type held struct {
	kind int
	body string // with all its noughts
}

func holding(kind int, body []byte) held {
	return held{kind, string(append(slices.Clone(body), make([]byte, room-len(body))...))}
}

// leaf is where logical pages stand, and what they have.
type leaf struct {
	phys []int
	has  map[int]held
}

func (l leaf) copy() leaf { return leaf{slices.Clone(l.phys), maps.Clone(l.has)} }

// book is a plain model of a store whose frames are never all pinned.
type book struct {
	pages     int
	root      api.Root
	kept, now leaf
	own       []int
	fresh     map[int]bool
}

// newBook is the model of a disk that was formatted.
func newBook(pages int) *book {
	b := &book{pages: pages, fresh: map[int]bool{}}
	b.root = api.Root{Pages: uint64(pages)}
	b.kept.has, b.now.has = map[int]held{}, map[int]held{}
	b.commit([4]uint64{})
	return b
}

func (b *book) copy() *book {
	c := *b
	c.kept, c.now = b.kept.copy(), b.now.copy()
	c.own, c.fresh = slices.Clone(b.own), maps.Clone(b.fresh)
	return &c
}

// free are the pages that are not in use, rising.
func (b *book) free() []int {
	var l []int
	for n := 2; n < b.pages; n++ {
		if !slices.Contains(b.kept.phys, n) && !slices.Contains(b.own, n) && !b.fresh[n] {
			l = append(l, n)
		}
	}
	return l
}

func (b *book) is(n int) bool {
	_, is := b.now.has[n]
	return is
}

func mayBe(kind int, body []byte) bool {
	return slices.Contains(kinds(), kind) && len(body) <= room
}

func (b *book) put(n, kind int, body []byte) api.Errno {
	if !b.is(n) || !b.fresh[b.now.phys[n]] {
		free := b.free()
		if len(free) == 0 {
			return api.ErrFull
		}
		for len(b.now.phys) <= n {
			b.now.phys = append(b.now.phys, 0)
		}
		b.now.phys[n] = free[0]
		b.fresh[free[0]] = true
	}
	b.now.has[n] = holding(kind, body)
	return api.OK
}

func (b *book) write(n, kind int, body []byte) api.Errno {
	switch {
	case !mayBe(kind, body):
		return api.ErrArg
	case !b.is(n):
		return api.ErrNone
	}
	return b.put(n, kind, body)
}

func (b *book) create(kind int, body []byte) (int, api.Errno) {
	if !mayBe(kind, body) {
		return 0, api.ErrArg
	}
	n := 0
	for b.is(n) {
		n++
	}
	if err := b.put(n, kind, body); err != api.OK {
		return 0, err
	}
	return n, api.OK
}

func (b *book) drop(n int) api.Errno {
	if !b.is(n) {
		return api.ErrNone
	}
	delete(b.fresh, b.now.phys[n])
	delete(b.now.has, n)
	b.now.phys[n] = 0
	for i := len(b.now.phys); i > 0 && b.now.phys[i-1] == 0; i-- {
		b.now.phys = b.now.phys[:i-1]
	}
	return api.OK
}

func (b *book) commit(meta [4]uint64) api.Errno {
	forTable := need(len(tableBytes(b.now.phys)))
	all := forTable + need(4+(b.pages+7)/8)
	free := b.free()
	if len(free) < all {
		return api.ErrFull
	}
	b.own = free[:all]
	b.root = api.Root{Epoch: b.root.Epoch + 1, Pages: uint64(b.pages), Table: uint64(free[0]), Space: uint64(free[forTable]), Logical: uint64(len(b.now.phys)), Meta: meta}
	b.kept, b.fresh = b.now.copy(), map[int]bool{}
	return api.OK
}

func (b *book) rollback() {
	b.now, b.fresh = b.kept.copy(), map[int]bool{}
}

// news are the new pages, rising.
func (b *book) news() []int { return slices.Sorted(maps.Keys(b.fresh)) }

// craft is the disk's store of what the book has committed.
func (b *book) craft() craft {
	forTable := need(len(tableBytes(b.kept.phys)))
	c := crafted(b.pages, b.kept.phys, b.own[:forTable], b.own[forTable:])
	c.root = b.root
	for n, h := range b.kept.has {
		c.bodies[b.kept.phys[n]] = laid(byte(h.kind), uint32(n), []byte(h.body))
	}
	return c
}

// bookOf is the model of a crafted store.
func bookOf(t testing.TB, c craft) *book {
	t.Helper()
	return toldOf(t, c.image())
}

// pageOf is a page of an image.
func pageOf(image []byte, n int) []byte { return image[n*size : (n+1)*size] }

// rootTold is the root that counts in an image, read apart from the program's own; of Epoch 0 if none does.
func rootTold(image []byte) api.Root {
	var counts api.Root
	for slot := range 2 {
		var r api.Root
		p := pageOf(image, slot)
		for i, to := range []*uint64{&r.Epoch, &r.Pages, &r.Table, &r.Space, &r.Logical, &r.Meta[0], &r.Meta[1], &r.Meta[2], &r.Meta[3]} {
			*to = binary.LittleEndian.Uint64(p[16+8*i:])
		}
		right := r.Pages == uint64(len(image)/size) && r.Logical <= 1<<16 && r.Epoch%2 == uint64(slot)
		for _, head := range []uint64{r.Table, r.Space} {
			right = right && (head == 0 || head > 1 && head < r.Pages)
		}
		if right && bytes.Equal(rootBytes(r), p) && r.Epoch > counts.Epoch {
			counts = r
		}
	}
	return counts
}

// chainTold is a chain in an image, read apart from the program's own; no pages if it is none.
func chainTold(image []byte, kind byte, head uint64) ([]byte, []int) {
	var all []byte
	var on []int
	for n := head; ; {
		if n < 2 || n >= uint64(len(image)/size) || slices.Contains(on, int(n)) {
			return nil, nil
		}
		on = append(on, int(n))
		p := pageOf(image, int(n))
		all = append(all, p[22:22+min(link, int(binary.LittleEndian.Uint16(p[20:])))]...)
		if n = uint64(binary.LittleEndian.Uint32(p[16:])); n == 0 {
			break
		}
	}
	if len(on) != need(len(all)) {
		return nil, nil
	}
	for n, b := range chained(kind, on, all) {
		if !bytes.Equal(pageOf(image, n), b) {
			return nil, nil
		}
	}
	return all, on
}

// physTold is a table's pages, read apart from the program's own, and whether it may be one's of that many logical pages.
func physTold(b []byte, logical uint64) ([]int, bool) {
	var phys []int
	count, k := binary.Uvarint(b)
	for range min(count, uint64(len(b))) {
		n, more := binary.Uvarint(b[max(k, 0):])
		k += more
		phys = append(phys, int(n))
	}
	ended := len(phys) == 0 || phys[len(phys)-1] != 0
	return phys, ended && count == logical && bytes.Equal(tableBytes(phys), b)
}

// toldOf is what a disk's image leads to, read apart from the program's own; nothing if that is none.
func toldOf(t testing.TB, image []byte) *book {
	t.Helper()
	b := &book{pages: len(image) / size, root: rootTold(image), fresh: map[int]bool{}}
	entries, tableOn := chainTold(image, 2, b.root.Table)
	bits, spaceOn := chainTold(image, 3, b.root.Space)
	if len(tableOn) == 0 || len(spaceOn) == 0 {
		return nil
	}
	var right bool
	if b.kept.phys, right = physTold(entries, b.root.Logical); !right {
		return nil
	}
	b.own = slices.Sorted(slices.Values(slices.Concat(tableOn, spaceOn)))
	b.kept.has = map[int]held{}
	used := slices.Concat([]int{0, 1}, b.own)
	for n, on := range b.kept.phys {
		if on >= b.pages || on == 1 {
			return nil
		}
		if on != 0 {
			used = append(used, on)
			p := pageOf(image, on)
			b.kept.has[n] = held{int(p[3]), string(p[16:])}
		}
	}
	once := len(slices.Compact(slices.Sorted(slices.Values(used)))) == len(used)
	if !once || !bytes.Equal(bits, spaceBytes(b.pages, used)) {
		return nil
	}
	b.now = b.kept.copy()
	return b
}

func wantErr(t testing.TB, what string, got, want api.Errno) {
	t.Helper()
	if got != want {
		t.Fatalf("%s: error %d, want %d", what, got, want)
	}
}

func wantInts(t testing.TB, what string, got, want []int) {
	t.Helper()
	if !slices.Equal(got, want) {
		t.Fatalf("%s: %v, want %v", what, got, want)
	}
}

// wantNone is that nothing but an error is answered.
func wantNone(t testing.TB, what string, s *Store, got, want api.Errno) {
	t.Helper()
	wantErr(t, what, got, want)
	if s != nil {
		t.Fatalf("%s: a store beside an error", what)
	}
}

// wantTold is what the calls without an error tell.
func wantTold(t testing.TB, what string, s *Store, b *book) {
	t.Helper()
	if got := s.Root(); got != b.root {
		t.Fatalf("%s: root %v, want %v", what, got, b.root)
	}
	wantInts(t, what+": table", s.Table().Phys, b.now.phys)
	wantInts(t, what+": own", s.Own(), b.own)
	wantInts(t, what+": fresh", s.Fresh(), b.news())
	if got := s.Spare(); got != len(b.free()) {
		t.Fatalf("%s: spare %d, want %d", what, got, len(b.free()))
	}
}

// wantPages is what is read of each logical page, and of those that are none.
func wantPages(t testing.TB, what string, s *Store, b *book) {
	t.Helper()
	for n := -1; n <= len(b.now.phys); n++ {
		p, err := s.Read(n)
		if !b.is(n) {
			wantErr(t, fmt.Sprint(what, ": read of ", n), err, api.ErrNone)
			wantNoPage(t, what, p)
			continue
		}
		wantErr(t, fmt.Sprint(what, ": read of ", n), err, api.OK)
		wantPage(t, fmt.Sprint(what, ": read of ", n), p, n, b.now.has[n])
	}
}

func wantPage(t testing.TB, what string, p api.Page, n int, h held) {
	t.Helper()
	if p.Kind != h.kind || p.Number != uint32(n) || string(p.Body) != h.body {
		t.Fatalf("%s: Kind %d, Number %d, Body %x.. (%d), want %d, %d, %x..", what, p.Kind, p.Number, p.Body[:min(8, len(p.Body))], len(p.Body), h.kind, n, h.body[:8])
	}
}

func wantNoPage(t testing.TB, what string, p api.Page) {
	t.Helper()
	if p.Kind != 0 || p.Number != 0 || len(p.Body) != 0 {
		t.Fatalf("%s: a page beside an error: %d %d %x", what, p.Kind, p.Number, p.Body)
	}
}

// wantBook is all that a store tells.
func wantBook(t testing.TB, what string, s *Store, b *book) {
	t.Helper()
	wantErr(t, what+": Err", s.Err(), api.OK)
	wantTold(t, what, s, b)
	wantPages(t, what, s, b)
	wantTold(t, what+" behind the reads", s, b)
}

// wantKept is that a disk without its cache leads to what is committed, and that each page is used once, or free.
func wantKept(t testing.TB, what string, d *sector.Disk, b *book) {
	t.Helper()
	told := toldOf(t, d.Image()[:b.pages*size])
	if told == nil {
		t.Fatalf("%s: the disk has no store", what)
	}
	wantSame(t, what, told, b)
}

// wantSame is that one book's committed state is another one's.
func wantSame(t testing.TB, what string, got, want *book) {
	t.Helper()
	if got.root != want.root {
		t.Fatalf("%s: root %v, want %v", what, got.root, want.root)
	}
	wantInts(t, what+": the committed table", got.kept.phys, want.kept.phys)
	wantInts(t, what+": the committed chains", got.own, want.own)
	if !maps.Equal(got.kept.has, want.kept.has) {
		t.Fatalf("%s: other pages are committed", what)
	}
}

// wantUntouched is that nothing of what the committed root leads to waits in the disk's cache.
func wantUntouched(t testing.TB, what string, d *sector.Disk, b *book) {
	t.Helper()
	for _, n := range d.Cached() {
		at := n / 8
		if at == int(b.root.Epoch%2) || at > 1 && (slices.Contains(b.own, at) || slices.Contains(b.kept.phys, at)) {
			t.Fatalf("%s: page %d is written, that the committed root leads to", what, at)
		}
	}
}

// wantBroken is what a broken store answers, whatever it is given.
func wantBroken(t testing.TB, what string, s *Store) {
	t.Helper()
	for _, n := range []int{0, 1, -1, math.MaxInt} {
		p, err := s.Read(n)
		wantErr(t, what+": Read", err, api.ErrState)
		wantNoPage(t, what, p)
		wantErr(t, what+": Write", s.Write(n, api.PageSlots, nil), api.ErrState)
		wantErr(t, what+": Write of no kind", s.Write(n, 0, nil), api.ErrState)
		wantErr(t, what+": Free", s.Free(n), api.ErrState)
		wantErr(t, what+": Pin", s.Pin(n), api.ErrState)
		wantErr(t, what+": Unpin", s.Unpin(n), api.ErrState)
		wantErr(t, what+": Evict", s.Evict(n), api.ErrState)
	}
	for _, kind := range []int{0, api.PageSlots} {
		n, err := s.New(kind, nil)
		wantErr(t, what+": New", err, api.ErrState)
		if n != 0 {
			t.Fatalf("%s: New tells %d beside an error", what, n)
		}
	}
	wantErr(t, what+": Commit", s.Commit([4]uint64{}), api.ErrState)
	wantErr(t, what+": Err", s.Err(), api.ErrState)
}

func format(t testing.TB, d *sector.Disk, frames int) *Store {
	t.Helper()
	s, err := Format(d, frames)
	wantErr(t, "Format", err, api.OK)
	return s
}

func open(t testing.TB, what string, d *sector.Disk, frames int) *Store {
	t.Helper()
	s, err := Open(d, frames)
	wantErr(t, what+": Open", err, api.OK)
	return s
}

// both do a thing to a store and to its book, and hold their answers together.
type both struct {
	t testing.TB
	d *sector.Disk
	s *Store
	b *book
}

// formatted is a disk that was formatted, by so many frames.
func formatted(t testing.TB, pages, frames int) *both {
	t.Helper()
	d := newDisk(t, pages)
	return &both{t, d, format(t, d, frames), newBook(pages)}
}

func (x *both) create(kind int, body []byte) int {
	x.t.Helper()
	got, err := x.s.New(kind, body)
	want, wanted := x.b.create(kind, body)
	wantErr(x.t, fmt.Sprintf("New of kind %d, %d bytes", kind, len(body)), err, wanted)
	if got != want {
		x.t.Fatalf("New: %d, want %d", got, want)
	}
	return got
}

func (x *both) write(n, kind int, body []byte) {
	x.t.Helper()
	wantErr(x.t, fmt.Sprintf("Write of %d, kind %d, %d bytes", n, kind, len(body)), x.s.Write(n, kind, body), x.b.write(n, kind, body))
}

func (x *both) free(n int) {
	x.t.Helper()
	wantErr(x.t, fmt.Sprintf("Free of %d", n), x.s.Free(n), x.b.drop(n))
}

func (x *both) commit(meta [4]uint64) {
	x.t.Helper()
	want := x.b.commit(meta)
	wantErr(x.t, "Commit", x.s.Commit(meta), want)
	if want == api.OK {
		if l := x.d.Cached(); len(l) > 0 {
			x.t.Fatalf("Commit: sectors %v wait behind it", l)
		}
		wantKept(x.t, "Commit", x.d, x.b)
	}
}

func (x *both) rollback() {
	x.t.Helper()
	x.b.rollback()
	wantErr(x.t, "Rollback", x.s.Rollback(), api.OK)
}

func (x *both) want(what string) {
	x.t.Helper()
	wantUntouched(x.t, what, x.d, x.b)
	wantBook(x.t, what, x.s, x.b)
}

// some is a store with changes of every sort: what is committed, and what is not.
func some(t testing.TB, pages, frames int) *both {
	t.Helper()
	x := formatted(t, pages, frames)
	for i := range 5 {
		x.create(kinds()[i%4], plain(uint64(i), 100*i))
	}
	x.commit([4]uint64{1, 2, 3, 4})
	x.free(1)
	x.write(4, api.PageOver, plain(44, room))
	x.commit([4]uint64{5, 6, 7, 8})
	x.write(2, api.PageDir, plain(22, 7))
	x.create(api.PageBucket, plain(11, 300))
	x.create(api.PageSlots, plain(55, 1))
	x.free(5)
	x.free(0)
	x.write(1, api.PageSlots, plain(12, 400))
	return x
}

// each calls with a fault at each operation in turn, till none is hit; it answers how many operations there are. With a fault ErrIO is answered, and what is given is looked at then.
func each(t testing.TB, what string, call func(fault int) api.Errno, broken func(what string)) int {
	t.Helper()
	for fault := 0; ; fault++ {
		at := fmt.Sprint(what, " with a fault behind ", fault)
		err := call(fault)
		if err == api.OK {
			return fault
		}
		wantErr(t, at, err, api.ErrIO)
		broken(at)
	}
}

func wantCount(t testing.TB, what string, got, want int) {
	t.Helper()
	if got != want {
		t.Fatalf("%s: %d, want %d", what, got, want)
	}
}

// fail lays a fault behind so many operations of a disk.
func fail(t testing.TB, d *sector.Disk, after int) {
	t.Helper()
	wantErr(t, "Fail", d.Fail(after), api.OK)
}

// The chapter's examples.

func TestExamples(t *testing.T) {
	d, err := sector.New(64)
	wantErr(t, "a disk of 64 sectors", err, api.OK)
	s := format(t, d, 8)
	n, err := s.New(api.PageSlots, []byte("ab"))
	wantErr(t, "New", err, api.OK)
	wantCount(t, "New", n, 0)
	wantErr(t, "Commit", s.Commit([4]uint64{}), api.OK)
	if r := s.Root(); r.Epoch != 2 {
		t.Fatalf("Root behind the commit: Epoch %d, want 2", r.Epoch)
	}
	wantCount(t, "Spare", s.Spare(), 3)
	wantErr(t, "Write", s.Write(0, api.PageDir, []byte("cd")), api.OK)
	wantErr(t, "a crash that keeps nothing", d.Crash(api.Crash{Torn: -1}), api.OK)
	s = open(t, "behind the crash", d, 8)
	p, err := s.Read(0)
	wantErr(t, "Read of 0 behind Open", err, api.OK)
	wantPage(t, "Read of 0 behind Open", p, 0, holding(api.PageSlots, []byte("ab")))
}

// P11.1: Format, Open.

func TestNoDisk(t *testing.T) {
	for _, d := range noDisks() {
		for _, frames := range []int{8, 256, 7, 257, 0, -1} {
			s, err := Format(d, frames)
			wantNone(t, "Format of no disk", s, err, api.ErrNil)
			s, err = Open(d, frames)
			wantNone(t, "Open of no disk", s, err, api.ErrNil)
		}
	}
}

func TestSizes(t *testing.T) {
	// A disk of more than MaxPages pages there is none.
	if _, err := sector.New(8 * 4097); err != api.ErrArg {
		t.Fatalf("a disk of 4,097 pages: error %d", err)
	}
	for _, sectors := range []int{1, 7, 8, 15, 16, 56, 62, 63} {
		d, err := sector.New(sectors)
		wantErr(t, "a small disk", err, api.OK)
		fail(t, d, 0)
		for _, frames := range []int{8, 256, 7, 0} {
			s, err := Format(d, frames)
			wantNone(t, fmt.Sprint("Format of ", sectors, " sectors"), s, err, api.ErrArg)
			s, err = Open(d, frames)
			wantNone(t, fmt.Sprint("Open of ", sectors, " sectors"), s, err, api.ErrArg)
		}
		// The fault is still there: nothing was done.
		_, err = d.Read(0)
		wantErr(t, "the first operation", err, api.ErrIO)
	}
	for _, sectors := range []int{64, 65, 71, 72, 8 * 255, 8*256 + 7, 8 * 4096} {
		d, err := sector.New(sectors)
		wantErr(t, "a disk", err, api.OK)
		s := format(t, d, 8)
		wantCount(t, fmt.Sprint("Spare of ", sectors, " sectors"), s.Spare(), sectors/8-4)
		s = open(t, fmt.Sprint(sectors, " sectors"), d, 8)
		wantBook(t, fmt.Sprint(sectors, " sectors"), s, newBook(sectors/8))
	}
}

func TestFrames(t *testing.T) {
	for _, frames := range []int{math.MinInt, -8, -1, 0, 1, 7, 257, 512, 1<<32 + 8, math.MaxInt} {
		d := newDisk(t, 12)
		fail(t, d, 0)
		s, err := Format(d, frames)
		wantNone(t, fmt.Sprint("Format by frames ", frames), s, err, api.ErrArg)
		s, err = Open(d, frames)
		wantNone(t, fmt.Sprint("Open by frames ", frames), s, err, api.ErrArg)
		_, err = d.Read(0)
		wantErr(t, "the first operation", err, api.ErrIO)
	}
	for _, frames := range []int{8, 9, 100, 255, 256} {
		x := formatted(t, 12, frames)
		x.want(fmt.Sprint("frames ", frames))
		x.s = open(t, fmt.Sprint("frames ", frames), x.d, frames)
		x.want(fmt.Sprint("frames ", frames))
		// There are just so many frames.
		wantErr(t, "Evict of the last frame", x.s.Evict(frames-1), api.ErrNone)
		wantErr(t, "Evict behind the last frame", x.s.Evict(frames), api.ErrArg)
	}
}

func TestFormat(t *testing.T) {
	for _, pages := range []int{8, 9, 16, 17, 300, 4096} {
		for _, was := range []byte{0, 0xff, 0x54} {
			behind := plain(3, min(3, 8*4096-8*pages)*512)
			d := diskOf(t, append(bytes.Repeat([]byte{was}, pages*size), behind...))
			s := format(t, d, 8)
			b := newBook(pages)
			wantBook(t, fmt.Sprint("Format of ", pages), s, b)
			if want := (api.Root{Epoch: 1, Pages: uint64(pages), Table: 2, Space: 3}); s.Root() != want {
				t.Fatalf("Format of %d: root %v, want %v", pages, s.Root(), want)
			}
			// Both slots, and both chains: all else is as it was.
			c := b.craft()
			c.everything, c.behind = was, behind
			c.bodies[0] = make([]byte, size)
			if !bytes.Equal(d.Image(), c.image()) {
				t.Fatalf("Format of %d pages of %d: another image", pages, was)
			}
			if l := d.Cached(); len(l) > 0 {
				t.Fatalf("Format of %d: sectors %v wait behind it", pages, l)
			}
		}
	}
}

func TestFormatOfStore(t *testing.T) {
	// Of a disk that had a store of greater Epochs in both slots nothing counts any more.
	for commits := range 4 {
		x := some(t, 24, 8)
		for range commits {
			x.commit([4]uint64{9})
		}
		x.s, x.b = format(t, x.d, 9), newBook(24)
		x.want("formatted again")
		x.s = open(t, "formatted again", x.d, 8)
		x.want("formatted again, opened")
		wantKept(t, "formatted again", x.d, x.b)
	}
	c := crafted(12, []int{5}, []int{3}, []int{4})
	for _, epoch := range []uint64{1, 2, 1 << 32, math.MaxUint64 - 1, math.MaxUint64} {
		d := c.of(func(c *craft) { c.root.Epoch = epoch }).disk(t)
		s := format(t, d, 8)
		wantBook(t, "formatted", s, newBook(12))
		s = open(t, fmt.Sprint("Epoch ", epoch, " formatted"), d, 8)
		wantBook(t, "formatted, opened", s, newBook(12))
	}
}

func TestFormatFaults(t *testing.T) {
	d := newDisk(t, 12)
	count := each(t, "Format", func(fault int) api.Errno {
		d = diskOf(t, bytes.Repeat([]byte{0xaa}, 12*size))
		fail(t, d, fault)
		s, err := Format(d, 8)
		if err != api.OK && s != nil {
			t.Fatal("a store beside an error")
		}
		return err
	}, func(what string) {
		s := format(t, d, 8)
		wantBook(t, what+", then without", s, newBook(12))
		wantKept(t, what+", then without", d, newBook(12))
	})
	// Noughts on two pages, two chains' pages, flushed, the root, flushed.
	wantCount(t, "Format's operations", count, 16+16+1+8+1)
}

func TestOpen(t *testing.T) {
	long := make([]int, 5000)
	long[4999] = 11
	for _, x := range []struct {
		what             string
		pages            int
		phys             []int
		tableOn, spaceOn []int
		own              []int
	}{
		{"none", 8, nil, []int{2}, []int{3}, []int{2, 3}},
		{"one", 8, []int{4}, []int{2}, []int{3}, []int{2, 3}},
		{"full", 8, []int{7, 6, 5, 4}, []int{3}, []int{2}, []int{2, 3}},
		{"with holes", 16, []int{0, 0, 15, 0, 2, 9}, []int{14}, []int{5}, []int{5, 14}},
		{"of two pages of its table's chain", 16, long, []int{13, 4}, []int{9}, []int{4, 9, 13}},
		{"of the greatest page", 4096, []int{4095, 4000}, []int{4094}, []int{4093}, []int{4093, 4094}},
	} {
		c := crafted(x.pages, x.phys, x.tableOn, x.spaceOn)
		for epoch := uint64(1); epoch < 5; epoch++ {
			c.root.Epoch = epoch
			c.root.Meta = [4]uint64{epoch, 0, math.MaxUint64, 7}
			b := bookOf(t, c)
			s := open(t, x.what, c.disk(t), 8)
			wantBook(t, x.what, s, b)
			wantInts(t, x.what+": own", s.Own(), x.own)
			wantInts(t, x.what+": fresh", s.Fresh(), nil)
			if s.Root() != c.root {
				t.Fatalf("%s: root %v, want %v", x.what, s.Root(), c.root)
			}
		}
	}
}

func TestOpenWhichCounts(t *testing.T) {
	// Behind each commit it is the elder slot that is written: both have a root.
	x := formatted(t, 24, 8)
	for i := range 6 {
		x.create(api.PageSlots, plain(uint64(i), 9))
		before := x.d.Image()
		x.commit([4]uint64{uint64(i)})
		kept := int(x.b.root.Epoch+1) % 2
		if image := x.d.Image(); !bytes.Equal(image[kept*size:(kept+1)*size], before[kept*size:(kept+1)*size]) {
			t.Fatalf("Commit %d: the other slot is written too", i)
		}
		x.s = open(t, "behind a commit", x.d, 8)
		x.want("opened")
	}
	// Where the slot of the greater Epoch is no root's, the other one counts.
	image := x.d.Image()
	elder := toldOf(t, image).root.Epoch - 1
	image[int(elder+1)%2*size+20] ^= 1
	s := open(t, "the elder one", diskOf(t, image), 8)
	if s.Root().Epoch != elder {
		t.Fatalf("Epoch %d counts, want %d", s.Root().Epoch, elder)
	}
}

// wrongDisks are those that have no store, by what is wrong.
func wrongDisks() map[string]craft {
	right := crafted(16, []int{0, 9, 4, 0, 12}, []int{7}, []int{3})
	long := make([]int, 5000)
	long[4999] = 11
	two := crafted(16, long, []int{13, 4}, []int{9})
	l := map[string]craft{}
	add := func(what string, c craft, change func(c *craft)) { l[what] = c.of(change) }
	// What each has, where the space's bytes are to fit.
	used := func(more ...int) []byte { return spaceBytes(16, append(more, 0, 1, 3, 7)) }

	for _, head := range []uint64{0, 1, 16, 17, 4096, 1 << 32, 1<<32 + 7, math.MaxUint64} {
		add(fmt.Sprint("the table's head ", head), right, func(c *craft) { c.root.Table = head })
		add(fmt.Sprint("the space's head ", head), right, func(c *craft) { c.root.Space = head })
		add(fmt.Sprint("both heads ", head), right, func(c *craft) { c.root.Table, c.root.Space = head, head })
	}
	for _, head := range []uint64{2, 3, 9, 15} {
		add(fmt.Sprint("the table's head ", head), right, func(c *craft) { c.root.Table = head })
	}
	for _, head := range []uint64{2, 7, 9, 15} {
		add(fmt.Sprint("the space's head ", head), right, func(c *craft) { c.root.Space = head })
	}
	add("Epoch 0", right, func(c *craft) { c.root.Epoch = 0 })
	add("Pages of one more", right, func(c *craft) { c.root.Pages++ })
	add("Pages of one less", right, func(c *craft) { c.root.Pages-- })
	for _, logical := range []uint64{0, 1, 4, 6, 16, 1 << 16, 1<<16 + 1, 1<<32 + 5, math.MaxUint64} {
		add(fmt.Sprint("Logical ", logical), right, func(c *craft) { c.root.Logical = logical })
	}
	for what, b := range map[string][]byte{
		"no bytes":            nil,
		"too few":             tableBytes([]int{0, 9, 4, 0, 12})[:5],
		"one more":            append(tableBytes([]int{0, 9, 4, 0, 12}), 0),
		"a long number":       {0x85, 0, 0, 9, 4, 0, 12},
		"a nought at its end": tableBytes([]int{0, 9, 4, 12, 0}),
		"the page 1":          tableBytes([]int{0, 9, 4, 1, 12}),
		"one page twice":      tableBytes([]int{0, 9, 4, 9, 12}),
		"the page 16":         tableBytes([]int{0, 9, 4, 16, 12}),
		"the page 4,095":      tableBytes([]int{0, 9, 4, 4095, 12}),
		"the page 4,096":      tableBytes([]int{0, 9, 4, 4096, 12}),
		"the table's chain":   tableBytes([]int{0, 9, 4, 7, 12}),
		"the space's chain":   tableBytes([]int{0, 9, 4, 3, 12}),
		"a page more":         tableBytes([]int{0, 9, 4, 5, 12}),
		"a page less":         tableBytes([]int{0, 0, 4, 0, 12}),
		"another page":        tableBytes([]int{0, 8, 4, 0, 12}),
		"all of another":      tableBytes([]int{2}),
	} {
		add("a table of "+what, right, func(c *craft) { c.table = b })
	}
	add("a page of the table that is not below Pages, and is used", right, func(c *craft) {
		c.table, c.space = tableBytes([]int{0, 9, 4, 0, 16}), used(9, 4)
	})
	add("a page of the table that is the table's chain's", right, func(c *craft) {
		c.table, c.space = tableBytes([]int{0, 9, 4, 0, 7}), used(9, 4)
	})
	add("a page of the table that is the space's chain's", right, func(c *craft) {
		c.table, c.space = tableBytes([]int{0, 9, 4, 0, 3}), used(9, 4)
	})
	for what, b := range map[string][]byte{
		"no bytes":          nil,
		"too few":           spaceBytes(16, []int{0, 1, 3, 4, 7, 9, 12})[:5],
		"one more":          append(spaceBytes(16, []int{0, 1, 3, 4, 7, 9, 12}), 0),
		"Pages of one less": spaceBytes(15, []int{0, 1, 3, 4, 7, 9, 12}),
		"Pages of one more": spaceBytes(17, []int{0, 1, 3, 4, 7, 9, 12}),
		"Pages of few":      spaceBytes(7, []int{0, 1, 3, 4}),
		"Pages of many":     spaceBytes(4096, []int{0, 1, 3, 4, 7, 9, 12}),
		"Pages of too many": spaceBytes(4097, []int{0, 1, 3, 4, 7, 9, 12}),
		"one more used":     used(4, 9, 12, 15),
		"another one used":  used(4, 9, 13),
		"all used":          append(binary.LittleEndian.AppendUint32(nil, 16), 0xff, 0xff),
		"none used":         spaceBytes(16, nil),
		"0 and 1 alone":     spaceBytes(16, []int{0, 1}),
		"1 not used":        spaceBytes(16, []int{0, 3, 4, 7, 9, 12}),
		"a page not used":   used(4, 12),
		"its own not used":  spaceBytes(16, []int{0, 1, 4, 7, 9, 12}),
		"the other's not":   spaceBytes(16, []int{0, 1, 3, 4, 9, 12}),
	} {
		add("a space of "+what, right, func(c *craft) { c.space = b })
	}
	for _, kind := range []byte{1, 3, 4, 6, 7} {
		add(fmt.Sprint("the table's chain of kind ", kind), right, func(c *craft) { c.bodies[7] = chained(kind, c.tableOn, c.table)[7] })
	}
	for _, kind := range []byte{1, 2, 4, 6, 7} {
		add(fmt.Sprint("the space's chain of kind ", kind), right, func(c *craft) { c.bodies[3] = chained(kind, c.spaceOn, c.space)[3] })
	}
	for _, next := range []int{1, 4, 13, 15, 16, 17, 4096, 1 << 31, math.MaxUint32} {
		add(fmt.Sprint("the table's chain with a next page ", next), two, func(c *craft) {
			c.bodies[13] = chained(2, []int{13, next}, c.table)[13]
			c.bodies[4] = make([]byte, size)
		})
	}
	add("the table's chain without its end", two, func(c *craft) { c.bodies[4] = make([]byte, size) })
	add("the table's chain without its beginning", two, func(c *craft) { c.root.Table = 4 })
	add("the table's chain on a page of its own", two, func(c *craft) {
		long := slices.Clone(long)
		long[4998] = 4
		c.table = tableBytes(long)
	})
	add("a turned bit in the table's chain", right, func(c *craft) {
		c.bodies[7] = chained(2, c.tableOn, c.table)[7]
		c.bodies[7][4000] ^= 1
	})
	add("a turned bit in the space's chain", right, func(c *craft) {
		c.bodies[3] = chained(3, c.spaceOn, c.space)[3]
		c.bodies[3][17] ^= 0x80
	})
	return l
}

func TestOpenBad(t *testing.T) {
	open(t, "the right one", crafted(16, []int{0, 9, 4, 0, 12}, []int{7}, []int{3}).disk(t), 8)
	for what, c := range wrongDisks() {
		d := c.disk(t)
		s, err := Open(d, 8)
		wantNone(t, what, s, err, api.ErrBad)
		if toldOf(t, c.image()) != nil {
			t.Fatalf("%s: the test itself reads it", what)
		}
		if len(d.Cached()) > 0 || !bytes.Equal(d.Image(), c.image()) {
			t.Fatalf("%s: Open writes", what)
		}
		// It may be formatted.
		wantBook(t, what+", formatted", format(t, d, 8), newBook(16))
	}
}

func TestOpenNoStore(t *testing.T) {
	for _, x := range []byte{0, 1, 0x54, 0xff} {
		s, err := Open(diskOf(t, bytes.Repeat([]byte{x}, 12*size)), 8)
		wantNone(t, fmt.Sprint("a disk of ", x), s, err, api.ErrBad)
	}
	for seed := range 20 {
		s, err := Open(diskOf(t, plain(uint64(seed), 12*size)), 8)
		wantNone(t, "a disk of any bytes", s, err, api.ErrBad)
	}
	// A disk that was longer, or shorter, has no root of these Pages.
	x := some(t, 24, 8)
	image := x.d.Image()
	s, err := Open(diskOf(t, image[:23*size]), 8)
	wantNone(t, "a page less", s, err, api.ErrBad)
	s, err = Open(diskOf(t, append(image, make([]byte, size)...)), 8)
	wantNone(t, "a page more", s, err, api.ErrBad)
	open(t, "sectors more", diskOf(t, append(x.d.Image(), make([]byte, 7*512)...)), 8)
}

func TestOpenCountingRootAlone(t *testing.T) {
	// The root that counts leads nowhere: the other one is not asked, though all it leads to is there.
	c := crafted(16, []int{0, 9, 4}, []int{7}, []int{3})
	for what, r := range map[string]api.Root{
		"no heads":        {Epoch: 8, Pages: 16, Logical: 3},
		"no table":        {Epoch: 8, Pages: 16, Space: 3, Logical: 3},
		"no space":        {Epoch: 8, Pages: 16, Table: 7, Logical: 3},
		"another Logical": {Epoch: 8, Pages: 16, Table: 7, Space: 3, Logical: 2},
		"another table":   {Epoch: 8, Pages: 16, Table: 8, Space: 3, Logical: 3},
	} {
		s, err := Open(c.of(func(c *craft) { c.bodies[0] = rootBytes(r) }).disk(t), 8)
		wantNone(t, what, s, err, api.ErrBad)
	}
	// One that may not be does not count, whatever its Epoch.
	for what, r := range map[string]api.Root{
		"a head of 1":       {Epoch: 8, Pages: 16, Table: 1, Space: 3, Logical: 3},
		"a head of Pages":   {Epoch: 8, Pages: 16, Table: 7, Space: 16, Logical: 3},
		"other Pages":       {Epoch: 8, Pages: 17, Table: 7, Space: 3, Logical: 3},
		"a great Logical":   {Epoch: 8, Pages: 16, Table: 7, Space: 3, Logical: 1<<16 + 1},
		"another slot's":    {Epoch: 9, Pages: 16, Table: 8, Space: 3, Logical: 3},
		"one of less Epoch": {Epoch: 6, Pages: 16, Table: 8, Space: 3, Logical: 3},
	} {
		s := open(t, what, c.of(func(c *craft) { c.bodies[0] = rootBytes(r) }).disk(t), 8)
		if s.Root() != c.root {
			t.Fatalf("%s counts", what)
		}
	}
}

func TestOpenFaults(t *testing.T) {
	long := make([]int, 5000)
	long[4999] = 11
	for _, c := range []craft{
		crafted(12, []int{0, 9, 4}, []int{7}, []int{3}),
		crafted(16, long, []int{13, 4}, []int{9}),
	} {
		d := c.disk(t)
		count := each(t, "Open", func(fault int) api.Errno {
			fail(t, d, fault)
			s, err := Open(d, 8)
			if err != api.OK && s != nil {
				t.Fatal("a store beside an error")
			}
			return err
		}, func(what string) {
			wantBook(t, what+", then without", open(t, what, d, 8), bookOf(t, c))
		})
		// Both slots, and both chains.
		wantCount(t, "Open's operations", count, 16+8*(len(c.tableOn)+len(c.spaceOn)))
	}
}

func TestOpenErrorOrder(t *testing.T) {
	right := crafted(12, []int{0, 9, 4}, []int{7}, []int{3})
	for _, x := range []struct {
		what   string
		fault  int // that is hit, if so much is read
		want   api.Errno
		change func(c *craft)
	}{
		{"a slot's fault ahead of no root", 15, api.ErrIO, func(c *craft) { c.root.Epoch = 0 }},
		{"no root ahead of the chains", 16, api.ErrBad, func(c *craft) { c.root.Epoch = 0 }},
		{"no table ahead of the chains", 16, api.ErrBad, func(c *craft) { c.root.Table = 0 }},
		{"the table's chain's fault ahead of no space", 23, api.ErrIO, func(c *craft) { c.root.Space = 0 }},
		{"a bad chain ahead of the other one", 24, api.ErrBad, func(c *craft) { c.bodies[7] = make([]byte, size) }},
		{"the space's chain's fault ahead of a bad table", 31, api.ErrIO, func(c *craft) { c.table = nil }},
		{"the space's chain's fault ahead of a bad space", 31, api.ErrIO, func(c *craft) { c.space = nil }},
		{"the space's chain's fault ahead of Logical", 24, api.ErrIO, func(c *craft) { c.root.Logical = 9 }},
		{"a bad table behind all that is read", 32, api.ErrBad, func(c *craft) { c.table = nil }},
	} {
		d := right.of(x.change).disk(t)
		fail(t, d, x.fault)
		s, err := Open(d, 8)
		wantNone(t, x.what, s, err, x.want)
	}
}

// Rule 7: a store that nobody made.

func TestNoStore(t *testing.T) {
	for _, s := range noStores() {
		for _, n := range []int{0, 1, -1, 7, math.MaxInt, math.MinInt} {
			p, err := s.Read(n)
			wantErr(t, "Read", err, api.ErrNil)
			wantNoPage(t, "Read", p)
			for _, kind := range []int{0, 6, 9} {
				for _, body := range [][]byte{nil, {1}, make([]byte, room+1)} {
					wantErr(t, "Write", s.Write(n, kind, body), api.ErrNil)
					got, err := s.New(kind, body)
					wantErr(t, "New", err, api.ErrNil)
					wantCount(t, "New", got, 0)
				}
			}
			wantErr(t, "Free", s.Free(n), api.ErrNil)
			wantErr(t, "Pin", s.Pin(n), api.ErrNil)
			wantErr(t, "Unpin", s.Unpin(n), api.ErrNil)
			wantErr(t, "Evict", s.Evict(n), api.ErrNil)
		}
		wantErr(t, "Commit", s.Commit([4]uint64{1}), api.ErrNil)
		wantErr(t, "Rollback", s.Rollback(), api.ErrNil)
		wantErr(t, "Err", s.Err(), api.ErrNil)
		if s.Root() != (api.Root{}) || len(s.Table().Phys) > 0 || len(s.Own()) > 0 || len(s.Fresh()) > 0 || s.Spare() != 0 {
			t.Fatal("a store that nobody made tells something")
		}
		wantErr(t, "Err behind all these", s.Err(), api.ErrNil)
	}
}

// P11.2: Read, Write, New, Free.

// wrongLogicals are numbers that no logical page of x has.
func wrongLogicals(x *both) []int {
	l := []int{-1, -2, math.MinInt, math.MinInt32, len(x.b.now.phys), len(x.b.now.phys) + 1, 4095, 1<<16 - 1, 1 << 16, 1 << 32, math.MaxInt}
	for n, at := range x.b.now.phys {
		if at == 0 {
			l = append(l, n, n+1<<16, n+1<<32)
		} else {
			l = append(l, n+1<<16, n+1<<32, n-1<<32)
		}
	}
	return l
}

func TestNone(t *testing.T) {
	x := some(t, 24, 8)
	for _, x := range []*both{x, formatted(t, 12, 8)} {
		for _, n := range wrongLogicals(x) {
			what := fmt.Sprint("of ", n)
			p, err := x.s.Read(n)
			wantErr(t, "Read "+what, err, api.ErrNone)
			wantNoPage(t, "Read "+what, p)
			wantErr(t, "Write "+what, x.s.Write(n, api.PageSlots, []byte{1}), api.ErrNone)
			wantErr(t, "Free "+what, x.s.Free(n), api.ErrNone)
			wantErr(t, "Pin "+what, x.s.Pin(n), api.ErrNone)
			wantErr(t, "Unpin "+what, x.s.Unpin(n), api.ErrNone)
		}
		x.want("behind none of them")
	}
}

func TestWriteArguments(t *testing.T) {
	x := some(t, 24, 8)
	for _, kind := range wrongKinds() {
		for _, length := range []int{0, 1, room, room + 1} {
			body := plain(1, length)
			// A wrong Kind comes ahead of a logical page that is none.
			for _, n := range []int{1, 2, 3, 0, -1, math.MaxInt} {
				wantErr(t, fmt.Sprintf("Write of kind %d, %d bytes", kind, length), x.s.Write(n, kind, body), api.ErrArg)
			}
			n, err := x.s.New(kind, body)
			wantErr(t, fmt.Sprintf("New of kind %d, %d bytes", kind, length), err, api.ErrArg)
			wantCount(t, "New", n, 0)
		}
	}
	for _, kind := range kinds() {
		for _, length := range []int{room + 1, room + 2, size, 2 * size, 1 << 20} {
			body := plain(1, length)
			for _, n := range []int{1, 2, 3, 0, -1, math.MaxInt} {
				wantErr(t, fmt.Sprintf("Write of kind %d, %d bytes", kind, length), x.s.Write(n, kind, body), api.ErrArg)
			}
			n, err := x.s.New(kind, body)
			wantErr(t, fmt.Sprintf("New of kind %d, %d bytes", kind, length), err, api.ErrArg)
			wantCount(t, "New", n, 0)
		}
	}
	x.want("behind wrong arguments")
}

func TestKindsAndBodies(t *testing.T) {
	for _, kind := range kinds() {
		for _, length := range []int{0, 1, 2, 16, 511, 512, link, room - 1, room} {
			x := formatted(t, 24, 8)
			x.create(kind, plain(uint64(length), length))
			x.want("New")
			x.commit([4]uint64{})
			x.want("Commit")
			// One that is committed goes to another page, one that is new stays.
			x.write(0, kind, plain(7, length))
			x.want("Write of one that is committed")
			x.write(0, kinds()[(kind+1)%4], plain(8, room-length))
			x.want("Write of one that is new")
			x.write(0, kind, nil)
			x.want("Write of no body")
			x.create(kind, bytes.Repeat([]byte{0}, length))
			x.want("New of noughts")
			x.commit([4]uint64{})
			x.s = open(t, "behind both", x.d, 8)
			x.want("Open")
		}
	}
}

func TestReadBad(t *testing.T) {
	phys := []int{8, 9, 10, 11, 12, 13, 0, 14}
	body := plain(3, 100)
	for what, b := range map[string][]byte{
		"another Number":        laid(6, 3, body),
		"Number 65,538":         laid(6, 2+1<<16, body),
		"the page's Number":     laid(6, 10, body),
		"PageRoot":              laid(1, 2, body),
		"PageChain":             laid(2, 2, body),
		"PageSpace":             laid(3, 2, body),
		"Kind 0":                laid(0, 2, body),
		"Kind 8":                laid(8, 2, body),
		"noughts":               make([]byte, size),
		"any bytes":             plain(9, size),
		"a turned bit":          func() []byte { b := laid(6, 2, body); b[2000] ^= 4; return b }(),
		"a turned bit of Kinds": func() []byte { b := laid(6, 2, body); b[3] = 4; return b }(),
		"a torn page":           append(laid(6, 2, plain(5, room))[:512], make([]byte, size-512)...),
	} {
		c := crafted(24, phys, []int{2}, []int{3}).of(func(c *craft) { c.bodies[10] = b })
		d := c.disk(t)
		s := open(t, what, d, 8)
		// It is unpinned each time: there is room for all others then.
		for range 20 {
			p, err := s.Read(2)
			wantErr(t, "Read of "+what, err, api.ErrBad)
			wantNoPage(t, "Read of "+what, p)
			p, err = s.Read(1)
			wantErr(t, what+": Read of another one", err, api.OK)
			wantPage(t, what, p, 1, holding(6, plain(1, 40)))
		}
		for frame := range 8 {
			if err := s.Evict(frame); err != api.OK && frame < 4 {
				t.Fatalf("%s: Evict of %d: error %d", what, frame, err)
			}
		}
		// It breaks nothing: it may be written, and freed.
		wantErr(t, what+": Err", s.Err(), api.OK)
		wantErr(t, what+": Write", s.Write(2, api.PageOver, body), api.OK)
		p, err := s.Read(2)
		wantErr(t, what+": Read behind Write", err, api.OK)
		wantPage(t, what, p, 2, holding(api.PageOver, body))
		wantErr(t, what+": Rollback", s.Rollback(), api.OK)
		_, err = s.Read(2)
		wantErr(t, what+": Read behind Rollback", err, api.ErrBad)
		wantErr(t, what+": Pin", s.Pin(2), api.OK)
		wantErr(t, what+": Unpin", s.Unpin(2), api.OK)
		wantErr(t, what+": Free", s.Free(2), api.OK)
		_, err = s.Read(2)
		wantErr(t, what+": Read behind Free", err, api.ErrNone)
	}
}

func TestReadOfEachKind(t *testing.T) {
	for kind := range 9 {
		c := crafted(12, []int{8}, []int{2}, []int{3}).of(func(c *craft) { c.bodies[8] = laid(byte(kind), 0, []byte("ab")) })
		p, err := open(t, "a page of each Kind", c.disk(t), 8).Read(0)
		if !slices.Contains(kinds(), kind) {
			wantErr(t, fmt.Sprint("Read of Kind ", kind), err, api.ErrBad)
			wantNoPage(t, "Read", p)
			continue
		}
		wantErr(t, fmt.Sprint("Read of Kind ", kind), err, api.OK)
		wantPage(t, "Read", p, 0, holding(kind, []byte("ab")))
	}
}

func TestWhichPageIsTaken(t *testing.T) {
	x := formatted(t, 16, 8)
	// 2 and 3 are the chains'.
	for i := range 4 {
		x.create(api.PageSlots, plain(uint64(i), 5))
	}
	wantInts(t, "Table", x.s.Table().Phys, []int{4, 5, 6, 7})
	wantInts(t, "Fresh", x.s.Fresh(), []int{4, 5, 6, 7})
	// A new page that is freed is the least one that is not in use.
	x.free(1)
	wantInts(t, "Fresh behind Free", x.s.Fresh(), []int{4, 6, 7})
	x.want("a hole")
	if n := x.create(api.PageDir, plain(9, 9)); n != 1 || x.s.Table().Phys[1] != 5 {
		t.Fatalf("New behind Free: %d on %d", n, x.s.Table().Phys[1])
	}
	x.commit([4]uint64{})
	wantInts(t, "Own", x.s.Own(), []int{8, 9})
	wantInts(t, "Fresh behind Commit", x.s.Fresh(), nil)
	x.want("committed")
	// The chains' pages of the root ahead are not in use any more; a page that is committed is, though nothing stands on it now.
	x.free(0)
	x.write(2, api.PageBucket, plain(10, 10))
	wantInts(t, "Table", x.s.Table().Phys, []int{0, 5, 2, 7})
	x.want("Write of one that is committed")
	x.write(2, api.PageBucket, plain(11, 11))
	wantInts(t, "Table behind Write of a new one", x.s.Table().Phys, []int{0, 5, 2, 7})
	x.create(api.PageOver, nil)
	wantInts(t, "Table behind New", x.s.Table().Phys, []int{3, 5, 2, 7})
	wantInts(t, "Fresh behind New", x.s.Fresh(), []int{2, 3})
	x.want("New")
	x.commit([4]uint64{})
	wantInts(t, "Own", x.s.Own(), []int{10, 11})
	x.create(api.PageOver, nil)
	wantInts(t, "Table", x.s.Table().Phys, []int{3, 5, 2, 7, 4})
	x.want("all")
}

func TestFree(t *testing.T) {
	x := some(t, 24, 8)
	spare := x.s.Spare()
	// The one that is committed stays in use, the one that is new does not.
	x.free(3)
	wantCount(t, "Spare behind Free of one that is committed", x.s.Spare(), spare)
	x.want("Free of one that is committed")
	x.free(2)
	wantCount(t, "Spare behind Free of one that is new", x.s.Spare(), spare+1)
	x.want("Free of one that is new")
	x.free(2)
	x.free(3)
	x.want("Free of none")
	x.rollback()
	x.want("Rollback")
	for n := range 6 {
		x.free(n)
		x.want("Free of each")
	}
	wantInts(t, "Table of none", x.s.Table().Phys, nil)
	x.commit([4]uint64{4})
	x.want("Commit of none")
	wantCount(t, "Spare of none", x.s.Spare(), 24-4)
	wantInts(t, "Table of none", x.s.Table().Phys, nil)
	x.create(api.PageSlots, nil)
	x.want("New behind all that")
}

func TestFreeDrops(t *testing.T) {
	// A page that is new is dropped: nothing of it is saved, and its pins are gone.
	x := formatted(t, 24, 8)
	x.create(api.PageSlots, plain(1, 9))
	for range 3 {
		wantErr(t, "Pin", x.s.Pin(0), api.OK)
	}
	wantErr(t, "Evict of its frame", x.s.Evict(2), api.ErrNone)
	at := x.s.Table().Phys[0]
	x.free(0)
	for frame := range 8 {
		x.s.Evict(frame)
	}
	for _, n := range x.d.Cached() {
		if n/8 == at {
			t.Fatalf("page %d is saved", at)
		}
	}
	x.create(api.PageSlots, plain(2, 9))
	wantErr(t, "Unpin", x.s.Unpin(0), api.ErrNone)
	x.want("behind all that")
	// One that is committed is not dropped: its frame stays.
	x.commit([4]uint64{})
	wantErr(t, "Pin", x.s.Pin(0), api.OK)
	x.free(0)
	x.rollback()
	x.want("Rollback")
}

func TestFull(t *testing.T) {
	x := formatted(t, 8, 8)
	for i := range 4 {
		x.create(kinds()[i], plain(uint64(i), 70))
	}
	wantCount(t, "Spare", x.s.Spare(), 0)
	n, err := x.s.New(api.PageSlots, nil)
	wantErr(t, "New without a page", err, api.ErrFull)
	wantCount(t, "New without a page", n, 0)
	x.create(api.PageSlots, nil)
	x.want("New without a page")
	// What is new has its page.
	for n := range 4 {
		x.write(n, api.PageOver, plain(9, n))
	}
	x.want("Write without a page, of what is new")
	wantErr(t, "Commit without a page", x.s.Commit([4]uint64{1}), api.ErrFull)
	x.want("Commit without a page")
	x.free(1)
	x.commit([4]uint64{1})
	x.want("Commit with one page")
	wantErr(t, "Commit with one page", x.s.Commit([4]uint64{1}), api.ErrFull)
	x.free(3)
	x.commit([4]uint64{1})
	x.want("Commit with two pages")
	// Two pages stand on 4 and 6, the chains on 5 and 7.
	wantInts(t, "Own", x.s.Own(), []int{5, 7})
	x.write(0, api.PageSlots, plain(1, 1))
	x.write(2, api.PageSlots, plain(2, 2))
	x.want("Write of both")
	wantErr(t, "Commit", x.s.Commit([4]uint64{}), api.ErrFull)
	x.rollback()
	x.want("Rollback")
	x.create(api.PageSlots, nil)
	x.create(api.PageSlots, nil)
	wantErr(t, "Write without a page", x.s.Write(0, api.PageSlots, []byte{1}), api.ErrFull)
	x.write(0, api.PageSlots, []byte{1})
	x.want("Write without a page")
	// Freeing what is committed gives none before a commit.
	x.free(0)
	x.free(2)
	wantErr(t, "Commit", x.s.Commit([4]uint64{}), api.ErrFull)
	x.want("Commit")
	x.free(1)
	x.free(3)
	x.commit([4]uint64{})
	x.want("Commit of none")
	wantCount(t, "Spare", x.s.Spare(), 4)
}

func TestFullErrorOrder(t *testing.T) {
	x := formatted(t, 8, 8)
	for range 3 {
		x.create(api.PageSlots, nil)
	}
	x.free(1)
	x.commit([4]uint64{})
	x.create(api.PageSlots, nil)
	wantCount(t, "Spare", x.s.Spare(), 1)
	x.write(0, api.PageSlots, nil)
	// Nothing is left: wrong arguments come first, then logical pages that are none.
	wantErr(t, "Write of a wrong kind", x.s.Write(2, 3, nil), api.ErrArg)
	wantErr(t, "Write of a long body", x.s.Write(2, 6, make([]byte, room+1)), api.ErrArg)
	wantErr(t, "Write of none", x.s.Write(3, 6, nil), api.ErrNone)
	wantErr(t, "Write", x.s.Write(2, 6, nil), api.ErrFull)
	_, err := x.s.New(3, nil)
	wantErr(t, "New of a wrong kind", err, api.ErrArg)
	_, err = x.s.New(6, make([]byte, room+1))
	wantErr(t, "New of a long body", err, api.ErrArg)
	_, err = x.s.New(6, nil)
	wantErr(t, "New", err, api.ErrFull)
	x.want("behind all these")
}

func TestLogicalPages(t *testing.T) {
	phys := make([]int, 1<<16)
	phys[1<<16-1] = 30
	var chain []int
	for n := range need(len(tableBytes(phys))) {
		chain = append(chain, 2+n)
	}
	wantCount(t, "pages of the greatest table's chain", len(chain), 17)
	c := crafted(52, phys, chain, []int{31})
	d := c.disk(t)
	b := bookOf(t, c)
	s := open(t, "the longest table", d, 8)
	wantTold(t, "the longest table", s, b)
	for _, kind := range kinds() {
		n, err := s.New(kind, nil)
		wantErr(t, "New of MaxLogical", err, api.ErrFull)
		wantCount(t, "New of MaxLogical", n, 0)
	}
	_, err := s.New(3, nil)
	wantErr(t, "New of MaxLogical, of a wrong kind", err, api.ErrArg)
	wantTold(t, "New of MaxLogical", s, b)
	// 20 pages are free: 17 and 1 are needed.
	wantErr(t, "Write of the last one", s.Write(1<<16-1, api.PageOver, []byte{7}), api.OK)
	wantErr(t, "Write of the last one", b.write(1<<16-1, api.PageOver, []byte{7}), api.OK)
	wantTold(t, "Write", s, b)
	wantErr(t, "Commit", s.Commit([4]uint64{5}), api.OK)
	wantErr(t, "Commit", b.commit([4]uint64{5}), api.OK)
	wantTold(t, "Commit", s, b)
	wantKept(t, "Commit", d, b)
	p, err := open(t, "Commit", d, 8).Read(1<<16 - 1)
	wantErr(t, "Read of the last one", err, api.OK)
	wantPage(t, "Read of the last one", p, 1<<16-1, holding(api.PageOver, []byte{7}))
	wantErr(t, "Free of the last one", s.Free(1<<16-1), api.OK)
	wantErr(t, "Free of the last one", b.drop(1<<16-1), api.OK)
	wantTold(t, "Free", s, b)
	n, err := s.New(api.PageDir, nil)
	wantErr(t, "New behind Free", err, api.OK)
	wantCount(t, "New behind Free", n, 0)
	// One less has room.
	phys = phys[1:]
	c = crafted(52, phys, chain, []int{31})
	s = open(t, "one less", c.disk(t), 8)
	n, err = s.New(api.PageDir, nil)
	wantErr(t, "New of one less", err, api.OK)
	wantCount(t, "New of one less", n, 0)
}

func TestLongChains(t *testing.T) {
	phys := make([]int, 1<<16)
	phys[1<<16-1] = 30
	var chain []int
	for n := range 17 {
		chain = append(chain, 2+n)
	}
	// With 17 free pages a commit has too few, with 18 just enough; each is taken by turns.
	for _, pages := range []int{37, 38} {
		c := crafted(pages, phys, chain, []int{19})
		d := c.disk(t)
		b := bookOf(t, c)
		s := open(t, "a long chain", d, 8)
		want := b.commit([4]uint64{3})
		if pages == 37 {
			wantErr(t, "a commit of too few", want, api.ErrFull)
		}
		wantErr(t, fmt.Sprint("Commit of ", pages), s.Commit([4]uint64{3}), want)
		wantTold(t, "Commit", s, b)
		wantKept(t, "Commit", d, b)
		wantErr(t, "Err", s.Err(), api.OK)
		wantErr(t, "Read", func() api.Errno { _, err := s.Read(1<<16 - 1); return err }(), api.OK)
	}
}

func TestGreatDisk(t *testing.T) {
	d := newDisk(t, 4096)
	s := format(t, d, 256)
	for i := 0; ; i++ {
		n, err := s.New(kinds()[i%4], plain(uint64(i), 20))
		if i == 4092 {
			wantErr(t, "New of the last page", err, api.ErrFull)
			break
		}
		if n != i || err != api.OK {
			t.Fatalf("New %d: %d, error %d", i, n, err)
		}
	}
	wantCount(t, "Spare", s.Spare(), 0)
	// The table has 8,000 bytes and some: two pages, and one more of the space.
	for i := range 3 {
		wantErr(t, "Commit", s.Commit([4]uint64{1}), api.ErrFull)
		wantErr(t, "Free", s.Free(1000*i), api.OK)
	}
	wantErr(t, "Commit", s.Commit([4]uint64{1}), api.OK)
	wantInts(t, "Own", s.Own(), []int{4, 1004, 2004})
	told := toldOf(t, d.Image())
	if told == nil || told.root != s.Root() {
		t.Fatal("the disk has another store")
	}
	s = open(t, "the great disk", d, 8)
	wantInts(t, "Table", s.Table().Phys, told.kept.phys)
	for n, h := range told.kept.has {
		p, err := s.Read(n)
		wantErr(t, "Read", err, api.OK)
		wantPage(t, "Read", p, n, h)
		if want := holding(kinds()[n%4], plain(uint64(n), 20)); h != want {
			t.Fatalf("page %d has other bytes", n)
		}
	}
}

// P11.3: Commit, Rollback, Pin, Unpin, Evict, Root, Table, Own, Fresh, Spare, Err.

func TestCommit(t *testing.T) {
	x := formatted(t, 24, 8)
	for i, meta := range [][4]uint64{{}, {1}, {0, 1}, {0, 0, 1}, {0, 0, 0, 1}, {math.MaxUint64, 1 << 63, 1 << 32, 255}, {}} {
		x.commit(meta)
		x.want("Commit of nothing changed")
		if r := x.s.Root(); r.Meta != meta || r.Epoch != uint64(i)+2 {
			t.Fatalf("Root: Epoch %d, Meta %v, want %d, %v", r.Epoch, r.Meta, i+2, meta)
		}
		x.s = open(t, "behind a commit", x.d, 8)
		x.want("opened")
	}
	x = formatted(t, 80, 8)
	for i := range 30 {
		for range 3 {
			x.create(kinds()[i%4], plain(uint64(i), 7*i))
		}
		x.free(i)
		x.free(i + 1)
		x.write(i/2, api.PageDir, plain(uint64(i), 30))
		x.write(i+2, api.PageOver, plain(uint64(i), 31))
		x.want("many changes")
		x.commit([4]uint64{uint64(i)})
		x.want("Commit of many changes")
		wantInts(t, "Fresh", x.s.Fresh(), nil)
		if i%5 == 0 {
			x.s = open(t, "behind a commit", x.d, 8+i)
			x.want("opened")
		}
	}
}

func TestCommitOperations(t *testing.T) {
	// With frames for all that is new: those pages, both chains', a flush; the root's, a flush.
	for _, change := range []func(x *both){
		func(*both) {},
		func(x *both) { x.write(3, 6, plain(1, 9)) },
		func(x *both) { x.free(1) },
		func(x *both) { x.create(7, nil); x.create(7, nil); x.write(0, 4, nil) },
	} {
		news := 0
		count := each(t, "Commit", func(fault int) api.Errno {
			x := some(t, 32, 32)
			x.commit([4]uint64{})
			change(x)
			news = len(x.s.Fresh())
			fail(t, x.d, fault)
			return x.s.Commit([4]uint64{})
		}, func(string) {})
		wantCount(t, fmt.Sprint("a commit's operations with new pages ", news), count, 8*(news+2)+1+8+1)
	}
}

func TestEpochs(t *testing.T) {
	right := crafted(16, []int{0, 9, 4}, []int{7}, []int{3})
	for _, epoch := range []uint64{1, 2, 255, 1<<32 - 2, 1<<32 - 1, 1 << 32, 1<<63 - 1, math.MaxUint64 - 2, math.MaxUint64 - 1} {
		c := right.of(func(c *craft) { c.root.Epoch = epoch })
		x := &both{t, c.disk(t), nil, bookOf(t, c)}
		x.s = open(t, fmt.Sprint("Epoch ", epoch), x.d, 8)
		x.write(1, api.PageOver, []byte("new"))
		x.commit([4]uint64{2})
		x.want(fmt.Sprint("a commit behind Epoch ", epoch))
		x.s = open(t, fmt.Sprint("behind Epoch ", epoch), x.d, 8)
		x.want(fmt.Sprint("Open behind Epoch ", epoch))
	}
	// Behind the greatest one there is no next: nothing is changed, and nothing is broken.
	c := right.of(func(c *craft) { c.root.Epoch = math.MaxUint64 })
	x := &both{t, c.disk(t), nil, bookOf(t, c)}
	x.s = open(t, "the greatest Epoch", x.d, 8)
	x.write(1, api.PageOver, []byte("new"))
	wantErr(t, "Commit behind the greatest Epoch", x.s.Commit([4]uint64{2}), api.ErrArg)
	x.want("Commit behind the greatest Epoch")
	x.rollback()
	x.want("Rollback behind the greatest Epoch")
	if len(x.d.Cached()) > 0 || !bytes.Equal(x.d.Image(), c.image()) {
		t.Fatal("Commit behind the greatest Epoch writes")
	}
}

func TestRollback(t *testing.T) {
	x := formatted(t, 24, 8)
	x.rollback()
	x.want("of a store of nothing")
	x.create(api.PageSlots, nil)
	x.rollback()
	x.want("of the first page")
	x = some(t, 24, 8)
	for range 3 {
		x.rollback()
		x.want("of changes, and of none")
	}
	// All is to be had again.
	for i := range 20 {
		x.create(kinds()[i%4], plain(uint64(i), 9))
		x.write(i%5, api.PageDir, plain(uint64(i), 10))
		x.free(i % 3)
		if i%7 == 6 {
			x.rollback()
		}
		x.want("changes and roll backs")
	}
	x.commit([4]uint64{8})
	x.want("Commit behind roll backs")
	x.rollback()
	x.want("Rollback behind Commit")
}

func TestRollbackLeavesTheSlots(t *testing.T) {
	// Where no root is in doubt both slots are as they were, and nothing is written.
	x := some(t, 24, 8)
	cached := len(x.d.Cached())
	image := x.d.Image()
	x.rollback()
	if len(x.d.Cached()) != cached || !bytes.Equal(x.d.Image(), image) {
		t.Fatal("Rollback writes")
	}
	count := each(t, "Rollback", func(fault int) api.Errno {
		fail(t, x.d, fault)
		return x.s.Rollback()
	}, func(what string) {
		wantBroken(t, what, x.s)
	})
	wantCount(t, "Rollback's operations", count, 16+16)
	fail(t, x.d, -1)
	x.b.rollback()
	x.want("Rollback behind faults")
}

func TestRollbackResets(t *testing.T) {
	x := some(t, 24, 8)
	x.rollback()
	// The frames have the chains' pages alone, no pins, and the hand is 0.
	for n := 2; n < 5; n++ {
		wantErr(t, "Pin", x.s.Pin(n), api.OK)
	}
	x.rollback()
	for frame := range 8 {
		want := api.ErrNone
		if frame < 2 {
			want = api.OK
		}
		wantErr(t, fmt.Sprint("Evict of frame ", frame), x.s.Evict(frame), want)
	}
	for n := 2; n < 5; n++ {
		wantErr(t, "Unpin", x.s.Unpin(n), api.ErrNone)
	}
	x.want("Rollback")
}

func TestRollbackOfADiskThatIsNoStoresAnyMore(t *testing.T) {
	// What was changed below it is told, and leaves the store broken; when the disk is as it was it may be rolled back.
	x := some(t, 24, 8)
	slot := int(x.b.root.Epoch % 2)
	sector := x.d.Image()[slot*size : slot*size+512]
	for range 2 {
		wantErr(t, "a write of noughts", x.d.Write(8*slot, make([]byte, 512)), api.OK)
		wantErr(t, "a write of noughts", x.d.Write(8*(1-slot), make([]byte, 512)), api.OK)
		wantErr(t, "Rollback", x.s.Rollback(), api.ErrBad)
		wantBroken(t, "Rollback", x.s)
		wantErr(t, "a write of the root", x.d.Write(8*slot, sector), api.OK)
		wantBroken(t, "Rollback", x.s)
	}
	x.b.rollback()
	wantErr(t, "Rollback", x.s.Rollback(), api.OK)
	wantBook(t, "Rollback", x.s, x.b)
}

func TestPins(t *testing.T) {
	x := formatted(t, 32, 8)
	for i := range 12 {
		x.create(kinds()[i%4], plain(uint64(i), 9))
	}
	x.commit([4]uint64{})
	x.s = open(t, "twelve pages", x.d, 8)
	wantErr(t, "Unpin of one that is not pinned", x.s.Unpin(3), api.ErrNone)
	for range 2 {
		wantErr(t, "Pin", x.s.Pin(3), api.OK)
	}
	// The chains' pages are in the frames 0 and 1, it is in 2.
	wantErr(t, "Evict of one that is pinned", x.s.Evict(2), api.ErrNone)
	wantErr(t, "Unpin", x.s.Unpin(3), api.OK)
	wantErr(t, "Evict of one that is pinned", x.s.Evict(2), api.ErrNone)
	x.want("all pages read")
	wantErr(t, "Evict of one that is pinned", x.s.Evict(2), api.ErrNone)
	wantErr(t, "Unpin", x.s.Unpin(3), api.OK)
	wantErr(t, "Unpin once more", x.s.Unpin(3), api.ErrNone)
	wantErr(t, "Evict", x.s.Evict(2), api.OK)
	wantErr(t, "Evict of an empty one", x.s.Evict(2), api.ErrNone)
	for _, frame := range []int{-1, 8, 9, math.MaxInt, math.MinInt} {
		wantErr(t, fmt.Sprint("Evict of frame ", frame), x.s.Evict(frame), api.ErrArg)
	}
	x.want("behind all these")
	// A pin holds the page, not the logical page: one that is written beside it is another one.
	wantErr(t, "Pin", x.s.Pin(5), api.OK)
	x.write(5, api.PageSlots, plain(50, 9))
	wantErr(t, "Unpin of the new page", x.s.Unpin(5), api.ErrNone)
	wantErr(t, "Pin of the new page", x.s.Pin(5), api.OK)
	x.write(5, api.PageSlots, plain(51, 9))
	wantErr(t, "Unpin of the new page", x.s.Unpin(5), api.OK)
	x.want("behind a pin of a page that is not there any more")
	x.rollback()
	wantErr(t, "Unpin behind Rollback", x.s.Unpin(5), api.ErrNone)
	x.want("Rollback")
}

func TestAllPinned(t *testing.T) {
	x := formatted(t, 40, 8)
	for i := range 12 {
		x.create(kinds()[i%4], plain(uint64(i), 9))
	}
	x.commit([4]uint64{})
	x.write(0, api.PageOver, plain(1, 8))
	for n := range 8 {
		wantErr(t, "Pin", x.s.Pin(n), api.OK)
	}
	wantFull := func(what string) {
		t.Helper()
		for _, n := range []int{8, 11} {
			p, err := x.s.Read(n)
			wantErr(t, what+": Read", err, api.ErrFull)
			wantNoPage(t, what+": Read", p)
			wantErr(t, what+": Pin", x.s.Pin(n), api.ErrFull)
			wantErr(t, what+": Unpin", x.s.Unpin(n), api.ErrNone)
		}
		wantErr(t, what+": Write of one that is committed", x.s.Write(1, api.PageSlots, nil), api.ErrFull)
		n, err := x.s.New(api.PageSlots, nil)
		wantErr(t, what+": New", err, api.ErrFull)
		wantCount(t, what+": New", n, 0)
		wantErr(t, what+": Commit", x.s.Commit([4]uint64{9}), api.ErrFull)
		for frame := range 8 {
			wantErr(t, what+": Evict", x.s.Evict(frame), api.ErrNone)
		}
		wantErr(t, what+": Err", x.s.Err(), api.OK)
		wantTold(t, what, x.s, x.b)
	}
	wantFull("all pinned")
	// What is in a frame is to be had.
	for n := range 8 {
		p, err := x.s.Read(n)
		wantErr(t, "Read of what is pinned", err, api.OK)
		wantPage(t, "Read of what is pinned", p, n, x.b.now.has[n])
	}
	x.write(0, api.PageDir, plain(2, 8))
	wantErr(t, "Pin of what is pinned", x.s.Pin(0), api.OK)
	wantErr(t, "Unpin of what is pinned", x.s.Unpin(0), api.OK)
	wantFull("all pinned still")
	x.free(11)
	wantErr(t, "Unpin", x.s.Unpin(7), api.OK)
	x.want("one frame for all")
	x.write(1, api.PageSlots, plain(3, 8))
	x.create(api.PageSlots, plain(4, 8))
	x.want("one frame for all")
	x.commit([4]uint64{9})
	x.want("one frame for all, committed")
	x.s = open(t, "one frame for all", x.d, 8)
	x.want("opened")
}

func TestCommitIntoPinnedFrames(t *testing.T) {
	x := formatted(t, 40, 8)
	for i := range 8 {
		x.create(api.PageSlots, plain(uint64(i), 9))
	}
	x.commit([4]uint64{})
	for n := range 8 {
		wantErr(t, "Pin", x.s.Pin(n), api.OK)
	}
	x.free(0)
	wantErr(t, "Unpin", x.s.Unpin(7), api.OK)
	x.commit([4]uint64{})
	wantErr(t, "Pin", x.s.Pin(7), api.OK)
	// All frames are pinned. One of them has page 4, on which nothing stands: the table's chain can be put there, the space's nowhere.
	for range 3 {
		wantErr(t, "Commit of all pinned", x.s.Commit([4]uint64{7}), api.ErrFull)
		wantErr(t, "Err", x.s.Err(), api.OK)
		wantTold(t, "Commit of all pinned", x.s, x.b)
		wantUntouched(t, "Commit of all pinned", x.d, x.b)
	}
	x.create(api.PageOver, plain(44, 9))
	wantInts(t, "Fresh", x.s.Fresh(), []int{4})
	wantErr(t, "Commit of all pinned", x.s.Commit([4]uint64{7}), api.ErrFull)
	x.want("a new page in a pinned frame")
	wantErr(t, "Unpin of the new page", x.s.Unpin(0), api.OK)
	x.want("one frame for all")
	x.commit([4]uint64{7})
	x.want("Commit")
	x.rollback()
	x.want("Rollback")
}
