package bitmap_test

import (
	"math/rand"
	"slices"
	"testing"

	"strongbox/api"
	"strongbox/bitmap"
	"strongbox/disk"
	"strongbox/journal"
	"strongbox/pack"
	"strongbox/pool"
)

// counts are edges of how many places a map may have.
func counts() []int { return []int{1, 2, 7, 8, 9, 255, 256, 257, 511, 512, 513, 1023, 1024} }

// pagesOf is how many pages a map of so many places has.
func pagesOf(count int) int {
	n := 1
	for count > 256 {
		n, count = n+1, count-256
	}
	return n
}

// page is a page as a sector.
func page(t *testing.T, kind, number int, body string) string {
	t.Helper()
	s, e := pack.MakePage(api.Page{Kind: kind, Number: number, Body: body})
	answers(t, "MakePage", e, api.OK)
	return s
}

// body is that of a page, by the chapter's words, with the bits of these places: those of other pages are left out.
func body(number int, taken ...int) string {
	b := make([]byte, 32)
	for _, i := range taken {
		if i/256 == number {
			b[i%256/8] |= []byte{1, 2, 4, 8, 16, 32, 64, 128}[i%8]
		}
	}
	return string(b)
}

// pages are those of a map of so many places, of which these are taken.
func pages(t *testing.T, count int, taken ...int) []string {
	t.Helper()
	var l []string
	for k := range pagesOf(count) {
		l = append(l, page(t, 3, k, body(k, taken...)))
	}
	return l
}

// text is a sector's bytes that have this number: no two numbers have the same ones, and none is a page.
func text(n int) string {
	b := make([]byte, 256)
	for i := range b {
		b[i] = byte(n>>(i%4*8)) ^ byte(7*i+1)
	}
	return string(b)
}

// image is one of so many sectors, each of its own bytes, but for the journal's head, which is clear, and these sectors from a place on.
func image(t *testing.T, size, at int, sectors ...string) []string {
	t.Helper()
	l := make([]string, size)
	for i := range l {
		l[i] = text(1000000 + i)
	}
	copy(l[at:], sectors)
	d := loaded(t, l)
	answers(t, "Format", journal.Format(d), api.OK)
	return d.Image()
}

func loaded(t *testing.T, l []string) *disk.Disk {
	t.Helper()
	d, e := disk.Load(l)
	if d == nil || e != api.OK {
		t.Fatalf("Load of %d = %v, %d", len(l), d, e)
	}
	return d
}

func pooled(t *testing.T, d *disk.Disk, keep int) *pool.Pool {
	t.Helper()
	p, e := pool.Open(d, keep)
	if p == nil || e != api.OK {
		t.Fatalf("Open of a pool with %d = %v, %d, want a pool, OK", keep, p, e)
	}
	return p
}

func opened(t *testing.T, p *pool.Pool, at, count int) *bitmap.Map {
	t.Helper()
	m, e := bitmap.Open(p, at, count)
	if m == nil || e != api.OK {
		t.Fatalf("Open(%d, %d) = %v, %d, want a map, OK", at, count, m, e)
	}
	return m
}

// refused holds an Open that must not be OK against what it must answer.
func refused(t *testing.T, p *pool.Pool, at, count int, want api.Errno) {
	t.Helper()
	if m, e := bitmap.Open(p, at, count); m != nil || e != want {
		t.Fatalf("Open(%d, %d) = %v, %d, want nil, %d", at, count, m, e, want)
	}
}

// made is a disk of 128 sectors with a map from the sector 19 on, a pool that keeps so many at hand, and the map.
func made(t *testing.T, keep, count int, taken ...int) (*disk.Disk, *pool.Pool, *bitmap.Map) {
	t.Helper()
	d := loaded(t, image(t, 128, 19, pages(t, count, taken...)...))
	p := pooled(t, d, keep)
	return d, p, opened(t, p, 19, count)
}

// answers holds an answer that is an error alone against what it must be.
func answers(t *testing.T, what string, got, want api.Errno) {
	t.Helper()
	if got != want {
		t.Fatalf("%s = %d, want %d", what, got, want)
	}
}

func allocs(t *testing.T, m *bitmap.Map, want int) {
	t.Helper()
	if i, e := m.Alloc(); i != want || e != api.OK {
		t.Fatalf("Alloc = %d, %d, want %d, OK", i, e, want)
	}
}

func refusesAlloc(t *testing.T, m *bitmap.Map, want api.Errno) {
	t.Helper()
	if i, e := m.Alloc(); i != 0 || e != want {
		t.Fatalf("Alloc = %d, %d, want 0, %d", i, e, want)
	}
}

func frees(t *testing.T, m *bitmap.Map, i int, want api.Errno) {
	t.Helper()
	if e := m.Free(i); e != want {
		t.Fatalf("Free(%d) = %d, want %d", i, e, want)
	}
}

func uses(t *testing.T, m *bitmap.Map, i int, want bool) {
	t.Helper()
	if u, e := m.Used(i); u != want || e != api.OK {
		t.Fatalf("Used(%d) = %v, %d, want %v, OK", i, u, e, want)
	}
}

func refusesUsed(t *testing.T, m *bitmap.Map, i int, want api.Errno) {
	t.Helper()
	if u, e := m.Used(i); u || e != want {
		t.Fatalf("Used(%d) = %v, %d, want false, %d", i, u, e, want)
	}
}

func lists(t *testing.T, m *bitmap.Map, want ...int) {
	t.Helper()
	if l, e := m.List(); !slices.Equal(l, want) || e != api.OK {
		t.Fatalf("List = %v, %d, want %v, OK", l, e, want)
	}
	if n, e := m.Count(); n != len(want) || e != api.OK {
		t.Fatalf("Count = %d, %d, want %d, OK", n, e, len(want))
	}
}

// refusesLists holds List and Count against an error.
func refusesLists(t *testing.T, m *bitmap.Map, want api.Errno) {
	t.Helper()
	if l, e := m.List(); len(l) != 0 || e != want {
		t.Fatalf("List = %v, %d, want none, %d", l, e, want)
	}
	if n, e := m.Count(); n != 0 || e != want {
		t.Fatalf("Count = %d, %d, want 0, %d", n, e, want)
	}
}

// tells holds all that a map of so many places tells against a set, which is rising.
func tells(t *testing.T, m *bitmap.Map, count int, taken ...int) {
	t.Helper()
	lists(t, m, taken...)
	for i := range count {
		uses(t, m, i, slices.Contains(taken, i))
	}
	refusesUsed(t, m, -1, api.ErrBitmapPlace)
	refusesUsed(t, m, count, api.ErrBitmapPlace)
}

func dirty(t *testing.T, p *pool.Pool, want ...int) {
	t.Helper()
	if l := p.Dirty(); !slices.Equal(l, want) {
		t.Fatalf("Dirty = %v, want %v", l, want)
	}
}

// holds holds a sector, as a pool sees it, against its bytes.
func holds(t *testing.T, p *pool.Pool, i int, want string) {
	t.Helper()
	if s, e := p.Read(i); s != want || e != api.OK {
		t.Fatalf("Read(%d) = %q, %d, want %q, OK", i, s, e, want)
	}
}

func begin(t *testing.T, p *pool.Pool) {
	t.Helper()
	answers(t, "Begin", p.Begin(), api.OK)
}

func commit(t *testing.T, p *pool.Pool) {
	t.Helper()
	answers(t, "Commit", p.Commit(), api.OK)
}

func abort(t *testing.T, p *pool.Pool) {
	t.Helper()
	answers(t, "Abort", p.Abort(), api.OK)
}

func write(t *testing.T, p *pool.Pool, i int, s string) {
	t.Helper()
	answers(t, "Write", p.Write(i, s), api.OK)
}

// kill lets a disk die without an act.
func kill(t *testing.T, d *disk.Disk) {
	t.Helper()
	answers(t, "Arm", d.Arm(1), api.OK)
	answers(t, "Flush", d.Flush(), api.ErrDead)
}

// lose lets a pool be lost, by a Read of its disk, which is dead then.
func lose(t *testing.T, d *disk.Disk, p *pool.Pool) {
	t.Helper()
	kill(t, d)
	if s, e := p.Read(127); s != "" || e != api.ErrDead {
		t.Fatalf("Read = %.16q, %d, want ErrDead", s, e)
	}
}

// upTo are the numbers below n.
func upTo(n int) []int { return from(0, n) }

// from are so many numbers from the first on.
func from(first, many int) []int {
	l := make([]int, many)
	for i := range l {
		l[i] = first + i
	}
	return l
}

// without is a list without these.
func without(l []int, out ...int) []int {
	return slices.DeleteFunc(slices.Clone(l), func(i int) bool { return slices.Contains(out, i) })
}

// some are by chance some of the numbers below n, of 4 so many as told.
func some(r *rand.Rand, n, of4 int) []int {
	return slices.DeleteFunc(upTo(n), func(int) bool { return r.Intn(4) >= of4 })
}
