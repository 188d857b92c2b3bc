package chunk_test

import (
	"crypto/sha256"
	"math/rand"
	"slices"
	"strings"
	"testing"

	"strongbox/api"
	"strongbox/bitmap"
	"strongbox/chunk"
	"strongbox/disk"
	"strongbox/index"
	"strongbox/journal"
	"strongbox/pack"
	"strongbox/pool"
)

// counts are edges of how many places a store may have: those of a page of the index, of the bitmap, and one more.
func counts() []int { return []int{1, 2, 5, 6, 7, 12, 13, 255, 256, 257} }

// edges are places of one of so many.
func edges(count int) []int {
	l := []int{0, 5, 6, 255, 256, count - 1}
	slices.Sort(l)
	return slices.DeleteFunc(slices.Compact(l), func(i int) bool { return i >= count })
}

// pagesOf is how many pages so many places have, of which each tells so many.
func pagesOf(count, each int) int { return (count + each - 1) / each }

// text is a sector's bytes that have this number: no two numbers have the same ones, and none is a page.
func text(n int) string {
	b := make([]byte, 256)
	for i := range b {
		b[i] = byte(n>>(i%4*8)) ^ byte(7*i+1)
	}
	return string(b)
}

// digest is that of some bytes.
func digest(cipher string) string {
	sum := sha256.Sum256([]byte(cipher))
	return string(sum[:])
}

// stored is a chunk at a place, and how often it is counted.
type stored struct {
	place  int
	cipher string
	count  int
}

func (c stored) digest() string { return digest(c.cipher) }

// slot is what the index says of it.
func (c stored) slot() api.Slot {
	return api.Slot{Place: c.place, Digest: c.digest(), Count: c.count}
}

// at are chunks at these places, each of its own bytes (those that have the place's number) and counted so often.
func at(count int, places ...int) []stored {
	var l []stored
	for _, i := range places {
		l = append(l, stored{i, text(i), count})
	}
	return l
}

// with is what is there if these come to a list that is by rising places, each in the stead of what stood at its place.
func with(l []stored, in ...stored) []stored {
	for _, c := range in {
		l = append(without(l, c.place), c)
	}
	slices.SortFunc(l, func(a, b stored) int { return a.place - b.place })
	return l
}

// without is what is there if nothing is at these places.
func without(l []stored, out ...int) []stored {
	return slices.DeleteFunc(slices.Clone(l), func(c stored) bool { return slices.Contains(out, c.place) })
}

// page is a page as a sector.
func page(t *testing.T, kind, number int, body string) string {
	t.Helper()
	s, e := pack.MakePage(api.Page{Kind: kind, Number: number, Body: body})
	answers(t, "MakePage", e, api.OK)
	return s
}

// bitmapPage is a page of the bitmap where these places are taken.
func bitmapPage(t *testing.T, number int, taken []int) string {
	t.Helper()
	body := make([]byte, 32)
	for _, i := range taken {
		if i/256 == number {
			body[i%256/8] |= 1 << (i % 8)
		}
	}
	return page(t, 3, number, string(body))
}

// indexPage is a page of the index in which these stand.
func indexPage(t *testing.T, number int, l []stored) string {
	t.Helper()
	slots := slices.Repeat([]string{strings.Repeat("\x00", 37)}, 6)
	for _, c := range l {
		if c.place/6 == number {
			slots[c.place%6] = "\x01" + c.digest() + string([]byte{0, 0, byte(c.count / 256), byte(c.count % 256)})
		}
	}
	return page(t, 4, number, strings.Join(slots, ""))
}

// places are those of a list.
func places(l []stored) []int {
	var taken []int
	for _, c := range l {
		taken = append(taken, c.place)
	}
	return taken
}

// parts is a disk and what stands on it: from the sector 19 on the bitmap's pages, then the index's, then the data sectors, and some that are nobody's.
type parts struct {
	d     *disk.Disk
	p     *pool.Pool
	m     *bitmap.Map
	x     *index.Index
	s     *chunk.Store
	count int
}

// first is the sector of the place 0, in a store of so many.
func first(count int) int { return 19 + pagesOf(count, 256) + pagesOf(count, 6) }

func (w *parts) bitmapAt(place int) int { return 19 + place/256 }

func (w *parts) indexAt(place int) int { return 19 + pagesOf(w.count, 256) + place/6 }

func (w *parts) sectorAt(place int) int { return first(w.count) + place }

// nobodys are so many sectors that are nobody's.
func (w *parts) nobodys(many int) []int { return from(first(w.count)+w.count, many) }

// pages are those of a store of so many places, in which these are and others have taken those places.
func pages(t *testing.T, count int, l []stored, others ...int) []string {
	t.Helper()
	var sectors []string
	for k := range pagesOf(count, 256) {
		sectors = append(sectors, bitmapPage(t, k, append(places(l), others...)))
	}
	for k := range pagesOf(count, 6) {
		sectors = append(sectors, indexPage(t, k, l))
	}
	return sectors
}

// image is that of a disk with such a store. Sectors without a chunk have bytes of their own.
func image(t *testing.T, count int, l []stored, others ...int) []string {
	t.Helper()
	sectors := make([]string, max(128, first(count)+count+20))
	for i := range sectors {
		sectors[i] = text(1000000 + i)
	}
	copy(sectors[19:], pages(t, count, l, others...))
	for _, c := range l {
		sectors[first(count)+c.place] = c.cipher
	}
	d := loaded(t, sectors)
	answers(t, "Format", journal.Format(d), api.OK)
	return d.Image()
}

func loaded(t *testing.T, l []string) *disk.Disk {
	t.Helper()
	d, e := disk.Load(l)
	if d == nil || e != api.OK {
		t.Fatalf("Load of %d = %v, %d", len(l), d, e)
	}
	return d
}

// opened opens a store of so many places on a disk, with a pool that keeps so many sectors at hand.
func opened(t *testing.T, d *disk.Disk, keep, count int) *parts {
	t.Helper()
	p, e := pool.Open(d, keep)
	answers(t, "pool.Open", e, api.OK)
	w := &parts{d: d, p: p, count: count}
	w.reopen(t)
	return w
}

// reopen opens the parts anew on the same pool.
func (w *parts) reopen(t *testing.T) {
	t.Helper()
	var e api.Errno
	w.m, e = bitmap.Open(w.p, 19, w.count)
	answers(t, "bitmap.Open", e, api.OK)
	w.x, e = index.Open(w.p, w.indexAt(0), w.count)
	answers(t, "index.Open", e, api.OK)
	w.s = chunk.Open(w.p, w.m, w.x, first(w.count))
	if w.s == nil {
		t.Fatal("Open = nil")
	}
}

// made is a new disk with a store of so many places in which these are.
func made(t *testing.T, keep, count int, l ...stored) *parts {
	t.Helper()
	return opened(t, loaded(t, image(t, count, l)), keep, count)
}

// answers holds an answer that is an error alone against what it must be.
func answers(t *testing.T, what string, got, want api.Errno) {
	t.Helper()
	if got != want {
		t.Fatalf("%s = %d, want %d", what, got, want)
	}
}

// saves holds a Save that must be OK against whether the chunk is new.
func (w *parts) saves(t *testing.T, cipher string, isNew bool) {
	t.Helper()
	if s, is, e := w.s.Save(cipher); s != digest(cipher) || is != isNew || e != api.OK {
		t.Fatalf("Save(%.8q) = %x, %v, %d, want %x, %v, OK", cipher, s, is, e, digest(cipher), isNew)
	}
}

func (w *parts) refusesSave(t *testing.T, cipher string, want api.Errno) {
	t.Helper()
	if s, is, e := w.s.Save(cipher); s != "" || is || e != want {
		t.Fatalf("Save(%.8q) = %x, %v, %d, want nothing, false, %d", cipher, s, is, e, want)
	}
}

func (w *parts) holds(t *testing.T, digest string, want api.Errno) {
	t.Helper()
	if e := w.s.Hold(digest); e != want {
		t.Fatalf("Hold(%x) = %d, want %d", digest, e, want)
	}
}

// drops holds a Drop that must be OK against whether the chunk is gone.
func (w *parts) drops(t *testing.T, digest string, isGone bool) {
	t.Helper()
	if is, e := w.s.Drop(digest); is != isGone || e != api.OK {
		t.Fatalf("Drop(%x) = %v, %d, want %v, OK", digest, is, e, isGone)
	}
}

func (w *parts) refusesDrop(t *testing.T, digest string, want api.Errno) {
	t.Helper()
	if is, e := w.s.Drop(digest); is || e != want {
		t.Fatalf("Drop(%x) = %v, %d, want false, %d", digest, is, e, want)
	}
}

// refuses holds a Hold and a Drop against the error that both must answer.
func (w *parts) refuses(t *testing.T, digest string, want api.Errno) {
	t.Helper()
	w.holds(t, digest, want)
	w.refusesDrop(t, digest, want)
}

func (w *parts) loads(t *testing.T, digest, want string) {
	t.Helper()
	if s, e := w.s.Load(digest); s != want || e != api.OK {
		t.Fatalf("Load(%x) = %.8q, %d, want %.8q, OK", digest, s, e, want)
	}
}

func (w *parts) refusesLoad(t *testing.T, digest string, want api.Errno) {
	t.Helper()
	if s, e := w.s.Load(digest); s != "" || e != want {
		t.Fatalf("Load(%x) = %.8q, %d, want nothing, %d", digest, s, e, want)
	}
}

func (w *parts) counts(t *testing.T, digest string, want int) {
	t.Helper()
	if n := w.s.Count(digest); n != want {
		t.Fatalf("Count(%x) = %d, want %d", digest, n, want)
	}
}

// noDigests are texts that are no digest of a chunk that is at hand in a test: none has 32 bytes that were saved.
func noDigests() []string {
	d := digest(text(0))
	return []string{"", "x", d[:31], d[1:], d + "x", d + d[:1], "x" + d, d + d, strings.Repeat("\x00", 32), strings.Repeat("\x00", 31), strings.Repeat("\xff", 32), text(0), digest(text(777777)), digest(d), digest("")}
}

// knows holds what a store tells without a disk against what is there.
func (w *parts) knows(t *testing.T, l ...stored) {
	t.Helper()
	if n := w.s.Chunks(); n != len(l) {
		t.Fatalf("Chunks = %d, want %d", n, len(l))
	}
	for _, c := range l {
		w.counts(t, c.digest(), c.count)
	}
	for _, d := range noDigests() {
		w.counts(t, d, 0)
	}
}

// tells holds all that a store tells against what is there, if nobody else has taken a place.
func (w *parts) tells(t *testing.T, l ...stored) {
	t.Helper()
	w.knows(t, l...)
	for _, c := range l {
		w.loads(t, c.digest(), c.cipher)
	}
	for _, d := range noDigests() {
		w.refusesLoad(t, d, api.ErrChunkNone)
	}
	var slots []api.Slot
	for _, c := range l {
		slots = append(slots, c.slot())
	}
	if got := w.x.Each(); !slices.Equal(got, slots) {
		t.Fatalf("the index knows %v, want %v", got, slots)
	}
	if got, e := w.m.List(); !slices.Equal(got, places(l)) || e != api.OK {
		t.Fatalf("taken are %v, %d, want %v", got, e, places(l))
	}
}

// sees holds all pages and the chunks' sectors, as the transaction sees them, against what is there.
func (w *parts) sees(t *testing.T, l ...stored) {
	t.Helper()
	for k, want := range pages(t, w.count, l) {
		w.has(t, 19+k, want)
	}
	for _, c := range l {
		w.has(t, w.sectorAt(c.place), c.cipher)
	}
}

// has holds a sector, as a pool sees it, against its bytes.
func (w *parts) has(t *testing.T, i int, want string) {
	t.Helper()
	if s, e := w.p.Read(i); s != want || e != api.OK {
		t.Fatalf("Read(%d) = %q, %d, want %q, OK", i, s, e, want)
	}
}

// dirty holds which sectors the transaction has written against a list, in whatever order.
func (w *parts) dirty(t *testing.T, want ...int) {
	t.Helper()
	want = slices.Compact(slices.Sorted(slices.Values(want)))
	if l := w.p.Dirty(); !slices.Equal(l, want) {
		t.Fatalf("Dirty = %v, want %v", l, want)
	}
}

// asked is how many sectors were read that the transaction had not written.
func (w *parts) asked() int {
	n := w.p.Stats()
	return n.Hits + n.Misses
}

// sight is all that can be seen of a store.
type sight struct {
	sectors []string
	dirty   []int
	slots   []api.Slot
	chunks  int
	acts    int
}

func (w *parts) sight(t *testing.T) sight {
	t.Helper()
	v := sight{dirty: w.p.Dirty(), slots: w.x.Each(), chunks: w.s.Chunks(), acts: len(w.d.Trace())}
	for i := 19; i < w.p.Size(); i++ {
		s, e := w.p.Read(i)
		answers(t, "Read", e, api.OK)
		v.sectors = append(v.sectors, s)
	}
	return v
}

// unchanged does something, and looks whether all that can be seen is as it was.
func (w *parts) unchanged(t *testing.T, do func()) {
	t.Helper()
	was := w.sight(t)
	do()
	now := w.sight(t)
	if !slices.Equal(was.sectors, now.sectors) || !slices.Equal(was.dirty, now.dirty) || !slices.Equal(was.slots, now.slots) || was.chunks != now.chunks || was.acts != now.acts {
		t.Fatalf("something has changed: Dirty %v, then %v", was.dirty, now.dirty)
	}
}

func (w *parts) begin(t *testing.T) {
	t.Helper()
	answers(t, "Begin", w.p.Begin(), api.OK)
}

func (w *parts) commit(t *testing.T) {
	t.Helper()
	answers(t, "Commit", w.p.Commit(), api.OK)
}

func (w *parts) abort(t *testing.T) {
	t.Helper()
	answers(t, "Abort", w.p.Abort(), api.OK)
}

func (w *parts) reload(t *testing.T) {
	t.Helper()
	answers(t, "Reload", w.x.Reload(), api.OK)
}

// write writes sectors past the store, each of bytes of its own.
func (w *parts) write(t *testing.T, sectors ...int) {
	t.Helper()
	for _, i := range sectors {
		answers(t, "Write", w.p.Write(i, text(2000000+i)), api.OK)
	}
}

// kill lets the disk die without an act.
func (w *parts) kill(t *testing.T) {
	t.Helper()
	answers(t, "Arm", w.d.Arm(1), api.OK)
	answers(t, "Flush", w.d.Flush(), api.ErrDead)
}

// lose lets the pool be lost, by a Read of its disk, which is dead then.
func (w *parts) lose(t *testing.T) {
	t.Helper()
	w.kill(t)
	if s, e := w.p.Read(w.p.Size() - 1); s != "" || e != api.ErrDead {
		t.Fatalf("Read = %.8q, %d, want ErrDead", s, e)
	}
}

// upTo are the numbers below n.
func upTo(n int) []int { return from(0, n) }

// from are so many numbers from the first on.
func from(first, many int) []int {
	l := make([]int, many)
	for i := range l {
		l[i] = first + i
	}
	return l
}

// some are by chance some of the numbers below n, of 4 so many as told.
func some(r *rand.Rand, n, of4 int) []int {
	return slices.DeleteFunc(upTo(n), func(int) bool { return r.Intn(4) >= of4 })
}
