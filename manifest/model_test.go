package manifest_test

import (
	"math/rand"
	"slices"
	"strings"
	"testing"

	"strongbox/api"
	"strongbox/bitmap"
	"strongbox/disk"
	"strongbox/journal"
	"strongbox/manifest"
	"strongbox/pack"
	"strongbox/pool"
)

// text is a sector's bytes that have this number: no two numbers have the same ones, and none is a page.
func text(n int) string {
	b := make([]byte, 256)
	for i := range b {
		b[i] = byte(n>>(i%4*8)) ^ byte(7*i+1)
	}
	return string(b)
}

// entry is a right one that has this number: no two numbers have the same one.
func entry(n int) api.Entry {
	return api.Entry{Digest: text(n)[:32], Wrapped: text(n)[100:148]}
}

// volume is one as a plain map: what each block is mapped to, and at which place each leaf stands.
type volume struct {
	root, tenant, number int
	blocks               [60]api.Entry
	leaves               [20]int // -1, if there is none
}

// bare is one in which nothing is mapped.
func bare(root, tenant, number int) volume {
	v := volume{root: root, tenant: tenant, number: number}
	for l := range v.leaves {
		v.leaves[l] = -1
	}
	return v
}

// set is it with a block mapped; its leaf stands at that place, if it was not there.
func (v volume) set(block, place int, e api.Entry) volume {
	v.blocks[block] = e
	if v.leaves[block/3] < 0 {
		v.leaves[block/3] = place
	}
	return v
}

// clear is it with blocks mapped no more.
func (v volume) clear(blocks ...int) volume {
	for _, block := range blocks {
		v.blocks[block] = api.Entry{}
		l := block / 3
		if v.blocks[3*l] == (api.Entry{}) && v.blocks[3*l+1] == (api.Entry{}) && v.blocks[3*l+2] == (api.Entry{}) {
			v.leaves[l] = -1
		}
	}
	return v
}

// mapped are its blocks that are, rising.
func (v volume) mapped() []int {
	var l []int
	for block, e := range v.blocks {
		if e != (api.Entry{}) {
			l = append(l, block)
		}
	}
	return l
}

// places are those of its pages, the root's first.
func (v volume) places() []int {
	l := []int{v.root}
	for _, place := range v.leaves {
		if place >= 0 {
			l = append(l, place)
		}
	}
	return l
}

// page is a page as a sector.
func page(t *testing.T, kind, number int, body string) string {
	t.Helper()
	s, e := pack.MakePage(api.Page{Kind: kind, Number: number, Body: body})
	answers(t, "MakePage", e, api.OK)
	return s
}

// noughts are so many bytes 0.
func noughts(n int) string { return strings.Repeat("\x00", n) }

// rootPage is its root page as a sector.
func (v volume) rootPage(t *testing.T) string {
	t.Helper()
	var body []byte
	for _, place := range v.leaves {
		body = append(body, byte((place+1)>>8), byte(place+1))
	}
	return page(t, 6, 100*v.tenant+v.number, string(body))
}

// leafPage is one of its leaves as a sector.
func (v volume) leafPage(t *testing.T, l int) string {
	t.Helper()
	mark, body := byte(0), ""
	for j, e := range v.blocks[3*l : 3*l+3] {
		if e == (api.Entry{}) {
			body += noughts(80)
			continue
		}
		mark |= 1 << j
		body += e.Digest + e.Wrapped
	}
	return page(t, 7, 32*(100*v.tenant+v.number)+l, string([]byte{mark})+body)
}

// state is what stands in a store: volumes, and the places that others have taken.
type state struct {
	volumes []volume
	others  []int
}

// at is where in the list the volume of a root is, or -1.
func (m state) at(root int) int {
	return slices.IndexFunc(m.volumes, func(v volume) bool { return v.root == root })
}

// with is the state with these volumes, each in the stead of that of its root.
func (m state) with(in ...volume) state {
	for _, v := range in {
		m = m.without(v.root)
		m.volumes = append(m.volumes, v)
	}
	return m
}

// without is the state without the volume of a root.
func (m state) without(root int) state {
	m.volumes = slices.DeleteFunc(slices.Clone(m.volumes), func(v volume) bool { return v.root == root })
	m.others = slices.Clone(m.others)
	return m
}

// taken are all places that are, rising.
func (m state) taken() []int {
	l := slices.Clone(m.others)
	for _, v := range m.volumes {
		l = append(l, v.places()...)
	}
	slices.Sort(l)
	return l
}

// free is the least free place, or how many there are.
func (m state) free() int {
	i := 0
	for _, place := range m.taken() {
		if place == i {
			i++
		}
	}
	return i
}

// pages are all of the volumes', as sectors by their places.
func (m state) pages(t *testing.T) map[int]string {
	t.Helper()
	l := map[int]string{}
	for _, v := range m.volumes {
		l[v.root] = v.rootPage(t)
		for k, place := range v.leaves {
			if place >= 0 {
				l[place] = v.leafPage(t, k)
			}
		}
	}
	return l
}

// bitmapPages are those of a map of so many places, as sectors.
func (m state) bitmapPages(t *testing.T, count int) []string {
	t.Helper()
	var sectors []string
	for k := range pagesOf(count) {
		body := make([]byte, 32)
		for _, i := range m.taken() {
			if i/256 == k {
				body[i%256/8] |= 1 << (i % 8)
			}
		}
		sectors = append(sectors, page(t, 3, k, string(body)))
	}
	return sectors
}

// pagesOf is how many pages the map of so many places has.
func pagesOf(count int) int { return (count + 255) / 256 }

// first is the sector of the place 0: the map's pages stand from the sector 19 on, and three are left out behind them.
func first(count int) int { return 22 + pagesOf(count) }

// image is that of a disk with such a store; each sector that is none of its pages has bytes of its own.
func (m state) image(t *testing.T, count int) []string {
	t.Helper()
	sectors := make([]string, max(128, first(count)+count+20))
	for i := range sectors {
		sectors[i] = text(1000000 + i)
	}
	copy(sectors[19:], m.bitmapPages(t, count))
	for place, s := range m.pages(t) {
		sectors[first(count)+place] = s
	}
	d := loaded(t, sectors)
	answers(t, "Format", journal.Format(d), api.OK)
	return d.Image()
}

// parts is a disk and what stands on it.
type parts struct {
	d     *disk.Disk
	p     *pool.Pool
	m     *bitmap.Map
	s     *manifest.Store
	count int
}

func loaded(t *testing.T, l []string) *disk.Disk {
	t.Helper()
	d, e := disk.Load(l)
	if d == nil || e != api.OK {
		t.Fatalf("Load of %d = %v, %d", len(l), d, e)
	}
	return d
}

// opened opens a store of so many places on a disk, with a pool that keeps so many sectors at hand.
func opened(t *testing.T, d *disk.Disk, keep, count int) *parts {
	t.Helper()
	w := &parts{d: d, count: count}
	var e api.Errno
	w.p, e = pool.Open(d, keep)
	answers(t, "pool.Open", e, api.OK)
	w.m, e = bitmap.Open(w.p, 19, count)
	answers(t, "bitmap.Open", e, api.OK)
	w.s = manifest.Open(w.p, w.m, first(count))
	if w.s == nil {
		t.Fatal("Open = nil")
	}
	return w
}

// made is a new disk with a store of so many places in which this stands.
func made(t *testing.T, keep, count int, m state) *parts {
	t.Helper()
	return opened(t, loaded(t, m.image(t, count)), keep, count)
}

// empty is one in which nothing stands.
func empty(t *testing.T, count int) *parts {
	t.Helper()
	return made(t, 4, count, state{})
}

// bitmapAt is the sector of the map's page of a place.
func (w *parts) bitmapAt(place int) int { return 19 + place/256 }

// sectorAt is the sector of a place.
func (w *parts) sectorAt(place int) int { return first(w.count) + place }

// nobodys are so many sectors that are nobody's.
func (w *parts) nobodys(many int) []int { return from(first(w.count)+w.count, many) }

// answers holds an answer that is an error alone against what it must be.
func answers(t *testing.T, what string, got, want api.Errno) {
	t.Helper()
	if got != want {
		t.Fatalf("%s = %d, want %d", what, got, want)
	}
}

// number holds an answer that is a number and an error against what it must be.
func number(t *testing.T, what string, got int, e api.Errno, want int, wantErrno api.Errno) {
	t.Helper()
	if got != want || e != wantErrno {
		t.Fatalf("%s = %d, %d, want %d, %d", what, got, e, want, wantErrno)
	}
}

// creates holds a Create that must be OK against its root.
func (w *parts) creates(t *testing.T, tenant, volume, root int) {
	t.Helper()
	n, e := w.s.Create(tenant, volume)
	number(t, "Create", n, e, root, api.OK)
}

func (w *parts) refusesCreate(t *testing.T, tenant, volume int, want api.Errno) {
	t.Helper()
	n, e := w.s.Create(tenant, volume)
	number(t, "Create", n, e, 0, want)
}

func (w *parts) destroys(t *testing.T, root int, want api.Errno) {
	t.Helper()
	answers(t, "Destroy", w.s.Destroy(root), want)
}

// sets holds a Set that must be OK against how many pages more there are.
func (w *parts) sets(t *testing.T, root, block int, e api.Entry, more int) {
	t.Helper()
	n, errno := w.s.Set(root, block, e)
	number(t, "Set", n, errno, more, api.OK)
}

func (w *parts) refusesSet(t *testing.T, root, block int, e api.Entry, want api.Errno) {
	t.Helper()
	n, errno := w.s.Set(root, block, e)
	number(t, "Set", n, errno, 0, want)
}

// clears holds a Clear that must be OK against how many pages fewer there are.
func (w *parts) clears(t *testing.T, root, block, fewer int) {
	t.Helper()
	n, e := w.s.Clear(root, block)
	number(t, "Clear", n, e, fewer, api.OK)
}

func (w *parts) refusesClear(t *testing.T, root, block int, want api.Errno) {
	t.Helper()
	n, e := w.s.Clear(root, block)
	number(t, "Clear", n, e, 0, want)
}

// gets holds a Get against what it must answer.
func (w *parts) gets(t *testing.T, root, block int, want api.Entry, wantErrno api.Errno) {
	t.Helper()
	if e, errno := w.s.Get(root, block); e != want || errno != wantErrno {
		t.Fatalf("Get(%d, %d) = %q, %d, want %q, %d", root, block, e, errno, want, wantErrno)
	}
}

func (w *parts) refusesGet(t *testing.T, root, block int, want api.Errno) {
	t.Helper()
	w.gets(t, root, block, api.Entry{}, want)
}

func (w *parts) grows(t *testing.T, root, block, want int, wantErrno api.Errno) {
	t.Helper()
	n, e := w.s.Grows(root, block)
	number(t, "Grows", n, e, want, wantErrno)
}

// maps holds a Mapped against what it must answer.
func (w *parts) maps(t *testing.T, root, blocks, pages int, want api.Errno) {
	t.Helper()
	if n, m, e := w.s.Mapped(root); n != blocks || m != pages || e != want {
		t.Fatalf("Mapped(%d) = %d, %d, %d, want %d, %d, %d", root, n, m, e, blocks, pages, want)
	}
}

// told is what Each tells of a volume: blocks and their entries, in their order.
func (w *parts) told(root int) ([]int, []api.Entry) {
	var blocks []int
	var entries []api.Entry
	for block, e := range w.s.Each(root) {
		blocks, entries = append(blocks, block), append(entries, e)
	}
	return blocks, entries
}

// isVolume holds all that a store tells of a volume against it.
func (w *parts) isVolume(t *testing.T, v volume) {
	t.Helper()
	w.maps(t, v.root, len(v.mapped()), len(v.places()), api.OK)
	var entries []api.Entry
	for block, e := range v.blocks {
		if e == (api.Entry{}) {
			w.refusesGet(t, v.root, block, api.ErrManifestNone)
		} else {
			w.gets(t, v.root, block, e, api.OK)
			entries = append(entries, e)
		}
		more := 0
		if v.leaves[block/3] < 0 {
			more = 1
		}
		w.grows(t, v.root, block, more, api.OK)
	}
	if l, f := w.told(v.root); !slices.Equal(l, v.mapped()) || !slices.Equal(f, entries) {
		t.Fatalf("Each(%d) tells %v, want %v", v.root, l, v.mapped())
	}
}

// isNone holds all that a store tells of a root that is none to the error.
func (w *parts) isNone(t *testing.T, root int, want api.Errno) {
	t.Helper()
	w.maps(t, root, 0, 0, want)
	for _, block := range []int{0, 2, 3, 59} {
		w.refusesGet(t, root, block, want)
		w.grows(t, root, block, 0, want)
	}
	if l, _ := w.told(root); len(l) != 0 {
		t.Fatalf("Each(%d) tells %v", root, l)
	}
}

// isTaken holds the map's list against the places that are taken.
func (w *parts) isTaken(t *testing.T, want []int) {
	t.Helper()
	if l, e := w.m.List(); !slices.Equal(l, want) || e != api.OK {
		t.Fatalf("taken are %v, %d, want %v", l, e, want)
	}
}

// tells holds all that a store tells against what stands in it.
func (w *parts) tells(t *testing.T, m state) {
	t.Helper()
	for _, v := range m.volumes {
		w.isVolume(t, v)
	}
	for _, root := range append(m.nearby(w.count), -1, w.count) {
		if m.at(root) < 0 {
			w.isNone(t, root, api.ErrManifestForm)
		}
	}
	w.isTaken(t, m.taken())
}

// nearby are the places that are taken, and some that are not.
func (m state) nearby(count int) []int {
	l := append(m.taken(), 0, 1, m.free(), m.free()+1, count-1)
	slices.Sort(l)
	return slices.DeleteFunc(slices.Compact(l), func(i int) bool { return i >= count })
}

// sees holds all pages, as the transaction sees them, against what stands there.
func (w *parts) sees(t *testing.T, m state) {
	t.Helper()
	for k, want := range m.bitmapPages(t, w.count) {
		w.has(t, 19+k, want)
	}
	for place, want := range m.pages(t) {
		w.has(t, w.sectorAt(place), want)
	}
}

// has holds a sector, as the pool sees it, against its bytes.
func (w *parts) has(t *testing.T, i int, want string) {
	t.Helper()
	if s, e := w.p.Read(i); s != want || e != api.OK {
		t.Fatalf("Read(%d) = %q, %d, want %q, OK", i, s, e, want)
	}
}

// dirty holds which sectors the transaction has written against a list, in whatever order.
func (w *parts) dirty(t *testing.T, want ...int) {
	t.Helper()
	want = slices.Compact(slices.Sorted(slices.Values(want)))
	if l := w.p.Dirty(); !slices.Equal(l, want) {
		t.Fatalf("Dirty = %v, want %v", l, want)
	}
}

// sight is all that can be seen of what a store stands on.
type sight struct {
	sectors []string
	dirty   []int
	acts    int
}

func (w *parts) sight(t *testing.T) sight {
	t.Helper()
	v := sight{dirty: w.p.Dirty(), acts: len(w.d.Trace())}
	for i := range w.p.Size() {
		s, e := w.p.Read(i)
		answers(t, "Read", e, api.OK)
		v.sectors = append(v.sectors, s)
	}
	return v
}

// unchanged does something, and looks whether all that can be seen is as it was.
func (w *parts) unchanged(t *testing.T, do func()) {
	t.Helper()
	was := w.sight(t)
	do()
	now := w.sight(t)
	if !slices.Equal(was.sectors, now.sectors) || !slices.Equal(was.dirty, now.dirty) || was.acts != now.acts {
		t.Fatalf("something has changed: Dirty %v, then %v", was.dirty, now.dirty)
	}
}

func (w *parts) begin(t *testing.T) {
	t.Helper()
	answers(t, "Begin", w.p.Begin(), api.OK)
}

func (w *parts) commit(t *testing.T) {
	t.Helper()
	answers(t, "Commit", w.p.Commit(), api.OK)
}

func (w *parts) abort(t *testing.T) {
	t.Helper()
	answers(t, "Abort", w.p.Abort(), api.OK)
}

// write writes sectors past the store, each of bytes of its own.
func (w *parts) write(t *testing.T, sectors ...int) {
	t.Helper()
	for _, i := range sectors {
		answers(t, "Write", w.p.Write(i, text(2000000+i)), api.OK)
	}
}

// kill lets the disk die without an act.
func (w *parts) kill(t *testing.T) {
	t.Helper()
	answers(t, "Arm", w.d.Arm(1), api.OK)
	answers(t, "Flush", w.d.Flush(), api.ErrDead)
}

// lose lets the pool be lost, by a Read of its disk, which is dead then.
func (w *parts) lose(t *testing.T) {
	t.Helper()
	w.kill(t)
	w.notice(t)
}

// notice lets the pool be lost by a sector that is not at hand.
func (w *parts) notice(t *testing.T) {
	t.Helper()
	for i := range w.p.Size() {
		if _, e := w.p.Read(i); e == api.ErrDead {
			return
		}
	}
	t.Fatal("all sectors are at hand")
}

// upTo are the numbers below n.
func upTo(n int) []int { return from(0, n) }

// from are so many numbers from the first on.
func from(first, many int) []int {
	l := make([]int, many)
	for i := range l {
		l[i] = first + i
	}
	return l
}

// some are by chance some of the numbers below n, of 4 so many as told.
func some(r *rand.Rand, n, of4 int) []int {
	return slices.DeleteFunc(upTo(n), func(int) bool { return r.Intn(4) >= of4 })
}

// sample is what stands in most tests' stores, of 12 places: a volume with leaves of three, one and two blocks, its last one among them; one that is bare; one with the same leaf; the place 8 is others', and 7 and those from 9 on are free.
func sample() state {
	a := bare(0, 1, 5).set(0, 1, entry(100)).set(1, 1, entry(101)).set(2, 1, entry(102))
	a = a.set(7, 3, entry(107)).set(57, 6, entry(157)).set(59, 6, entry(159))
	c := bare(5, 8, 99).set(59, 4, entry(259))
	return state{volumes: []volume{a, bare(2, 1, 0), c}, others: []int{8}}
}

// places is how many those of a sample's store are.
const places = 12

// of is the volume of a root in a state.
func (m state) of(root int) volume { return m.volumes[m.at(root)] }
