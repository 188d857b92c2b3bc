package index_test

import (
	"math/rand"
	"slices"
	"strings"
	"testing"

	"strongbox/api"
	"strongbox/disk"
	"strongbox/index"
	"strongbox/journal"
	"strongbox/pack"
	"strongbox/pool"
)

// counts are edges of how many places an index may have.
func counts() []int { return []int{1, 2, 5, 6, 7, 11, 12, 13, 1023, 1024} }

// pagesOf is how many pages an index of so many places has.
func pagesOf(count int) int {
	n := 1
	for count > 6 {
		n, count = n+1, count-6
	}
	return n
}

// digest is one that has this number, up to 8000: each two of them differ in one byte or two.
func digest(n int) string {
	b := []byte(strings.Repeat("d", 32))
	b[n%32] ^= byte(n/32 + 1)
	return string(b)
}

// slot is what stands at a place.
func slot(place int, digest string, count int) api.Slot {
	return api.Slot{Place: place, Digest: digest, Count: count}
}

// at are slots of these places, each with a digest and a count of its own.
func at(places ...int) []api.Slot {
	var l []api.Slot
	for _, i := range places {
		l = append(l, slot(i, digest(i), 1+(i*977+i*i*31)%65535))
	}
	return l
}

// page is a page as a sector.
func page(t *testing.T, kind, number int, body string) string {
	t.Helper()
	s, e := pack.MakePage(api.Page{Kind: kind, Number: number, Body: body})
	answers(t, "MakePage", e, api.OK)
	return s
}

// bytesOf are those of a slot, by the chapter's words.
func bytesOf(s api.Slot) string {
	return "\x01" + s.Digest + string([]byte{0, 0, byte(s.Count / 256), byte(s.Count % 256)})
}

// none is the slot of a place at which nothing stands.
func none() string { return strings.Repeat("\x00", 37) }

// body is that of a page with these slots: those of other pages are left out.
func body(number int, l ...api.Slot) string {
	slots := []string{none(), none(), none(), none(), none(), none()}
	for _, s := range l {
		if s.Place/6 == number {
			slots[s.Place%6] = bytesOf(s)
		}
	}
	return strings.Join(slots, "")
}

// pages are those of an index of so many places, at which this stands.
func pages(t *testing.T, count int, l ...api.Slot) []string {
	t.Helper()
	var sectors []string
	for k := range pagesOf(count) {
		sectors = append(sectors, page(t, 4, k, body(k, l...)))
	}
	return sectors
}

// text is a sector's bytes that have this number: no two numbers have the same ones, and none is a page.
func text(n int) string {
	b := make([]byte, 256)
	for i := range b {
		b[i] = byte(n>>(i%4*8)) ^ byte(7*i+1)
	}
	return string(b)
}

// image is one of so many sectors, each of its own bytes, but for the journal's head, which is clear, and these sectors from a place on.
func image(t *testing.T, size, first int, sectors ...string) []string {
	t.Helper()
	l := make([]string, size)
	for i := range l {
		l[i] = text(1000000 + i)
	}
	copy(l[first:], sectors)
	d := loaded(t, l)
	answers(t, "Format", journal.Format(d), api.OK)
	return d.Image()
}

func loaded(t *testing.T, l []string) *disk.Disk {
	t.Helper()
	d, e := disk.Load(l)
	if d == nil || e != api.OK {
		t.Fatalf("Load of %d = %v, %d", len(l), d, e)
	}
	return d
}

func pooled(t *testing.T, d *disk.Disk, keep int) *pool.Pool {
	t.Helper()
	p, e := pool.Open(d, keep)
	if p == nil || e != api.OK {
		t.Fatalf("Open of a pool with %d = %v, %d, want a pool, OK", keep, p, e)
	}
	return p
}

func opened(t *testing.T, p *pool.Pool, first, count int) *index.Index {
	t.Helper()
	x, e := index.Open(p, first, count)
	if x == nil || e != api.OK {
		t.Fatalf("Open(%d, %d) = %v, %d, want an index, OK", first, count, x, e)
	}
	return x
}

// refused holds an Open that must not be OK against what it must answer.
func refused(t *testing.T, p *pool.Pool, first, count int, want api.Errno) {
	t.Helper()
	if x, e := index.Open(p, first, count); x != nil || e != want {
		t.Fatalf("Open(%d, %d) = %v, %d, want nil, %d", first, count, x, e, want)
	}
}

// size is how many sectors the disks of most tests have.
const size = 200

// made is a disk with an index from the sector 19 on, a pool that keeps so many at hand, and the index.
func made(t *testing.T, keep, count int, l ...api.Slot) (*disk.Disk, *pool.Pool, *index.Index) {
	t.Helper()
	d := loaded(t, image(t, size, 19, pages(t, count, l...)...))
	p := pooled(t, d, keep)
	return d, p, opened(t, p, 19, count)
}

// answers holds an answer that is an error alone against what it must be.
func answers(t *testing.T, what string, got, want api.Errno) {
	t.Helper()
	if got != want {
		t.Fatalf("%s = %d, want %d", what, got, want)
	}
}

func puts(t *testing.T, x *index.Index, s api.Slot, want api.Errno) {
	t.Helper()
	if e := x.Put(s); e != want {
		t.Fatalf("Put(%v) = %d, want %d", s, e, want)
	}
}

func clears(t *testing.T, x *index.Index, i int, want api.Errno) {
	t.Helper()
	if e := x.Clear(i); e != want {
		t.Fatalf("Clear(%d) = %d, want %d", i, e, want)
	}
}

func reloads(t *testing.T, x *index.Index, want api.Errno) {
	t.Helper()
	answers(t, "Reload", x.Reload(), want)
}

func finds(t *testing.T, x *index.Index, digest string, want int) {
	t.Helper()
	if i, is := x.Find(digest); i != want || !is {
		t.Fatalf("Find(%q) = %d, %v, want %d, true", digest, i, is, want)
	}
}

func findsNot(t *testing.T, x *index.Index, digest string) {
	t.Helper()
	if i, is := x.Find(digest); i != 0 || is {
		t.Fatalf("Find(%q) = %d, %v, want 0, false", digest, i, is)
	}
}

func gets(t *testing.T, x *index.Index, want api.Slot) {
	t.Helper()
	if s, e := x.Get(want.Place); s != want || e != api.OK {
		t.Fatalf("Get(%d) = %v, %d, want %v, OK", want.Place, s, e, want)
	}
}

func refusesGet(t *testing.T, x *index.Index, i int, want api.Errno) {
	t.Helper()
	if s, e := x.Get(i); s != (api.Slot{}) || e != want {
		t.Fatalf("Get(%d) = %v, %d, want nothing, %d", i, s, e, want)
	}
}

func lists(t *testing.T, x *index.Index, want ...api.Slot) {
	t.Helper()
	if l := x.Each(); !slices.Equal(l, want) {
		t.Fatalf("Each = %v, want %v", l, want)
	}
}

// tells holds all that an index of so many places tells against what stands, which is by rising places.
func tells(t *testing.T, x *index.Index, count int, l ...api.Slot) {
	t.Helper()
	lists(t, x, l...)
	next := 0
	for i := range count {
		if next < len(l) && l[next].Place == i {
			gets(t, x, l[next])
			finds(t, x, l[next].Digest, i)
			next++
			continue
		}
		refusesGet(t, x, i, api.ErrIndexNone)
	}
	refusesGet(t, x, -1, api.ErrIndexPlace)
	refusesGet(t, x, count, api.ErrIndexPlace)
	for _, n := range []int{7000, 7001, 7031} {
		findsNot(t, x, digest(n))
	}
	findsNot(t, x, "")
	findsNot(t, x, none()[:32])
}

func dirty(t *testing.T, p *pool.Pool, want ...int) {
	t.Helper()
	if l := p.Dirty(); !slices.Equal(l, want) {
		t.Fatalf("Dirty = %v, want %v", l, want)
	}
}

// holds holds a sector, as a pool sees it, against its bytes.
func holds(t *testing.T, p *pool.Pool, i int, want string) {
	t.Helper()
	if s, e := p.Read(i); s != want || e != api.OK {
		t.Fatalf("Read(%d) = %q, %d, want %q, OK", i, s, e, want)
	}
}

func begin(t *testing.T, p *pool.Pool) {
	t.Helper()
	answers(t, "Begin", p.Begin(), api.OK)
}

func commit(t *testing.T, p *pool.Pool) {
	t.Helper()
	answers(t, "Commit", p.Commit(), api.OK)
}

func abort(t *testing.T, p *pool.Pool) {
	t.Helper()
	answers(t, "Abort", p.Abort(), api.OK)
}

func write(t *testing.T, p *pool.Pool, i int, s string) {
	t.Helper()
	answers(t, "Write", p.Write(i, s), api.OK)
}

// kill lets a disk die without an act.
func kill(t *testing.T, d *disk.Disk) {
	t.Helper()
	answers(t, "Arm", d.Arm(1), api.OK)
	answers(t, "Flush", d.Flush(), api.ErrDead)
}

// lose lets a pool be lost, by a Read of its disk, which is dead then.
func lose(t *testing.T, d *disk.Disk, p *pool.Pool) {
	t.Helper()
	kill(t, d)
	if s, e := p.Read(p.Size() - 1); s != "" || e != api.ErrDead {
		t.Fatalf("Read = %.16q, %d, want ErrDead", s, e)
	}
}

// upTo are the numbers below n.
func upTo(n int) []int { return from(0, n) }

// from are so many numbers from the first on.
func from(first, many int) []int {
	l := make([]int, many)
	for i := range l {
		l[i] = first + i
	}
	return l
}

// with is what stands if these come to a list that is by rising places, each in the stead of what stood at its place.
func with(l []api.Slot, in ...api.Slot) []api.Slot {
	for _, s := range in {
		l = append(without(l, s.Place), s)
	}
	slices.SortFunc(l, func(a, b api.Slot) int { return a.Place - b.Place })
	return l
}

// without is what stands if nothing does at these places.
func without(l []api.Slot, out ...int) []api.Slot {
	return slices.DeleteFunc(slices.Clone(l), func(s api.Slot) bool { return slices.Contains(out, s.Place) })
}

// some are by chance some of the numbers below n, of 4 so many as told.
func some(r *rand.Rand, n, of4 int) []int {
	return slices.DeleteFunc(upTo(n), func(int) bool { return r.Intn(4) >= of4 })
}
