package bitmap_test

import (
	"math/rand"
	"slices"
	"testing"

	"strongbox/api"
	"strongbox/bitmap"
	"strongbox/disk"
	"strongbox/pool"
)

// bench is maps over the same pages, and their model: sets of numbers.
type bench struct {
	d       *disk.Disk
	p       *pool.Pool
	maps    [2]*bitmap.Map
	at      int
	count   int
	last    []bool // what was committed
	now     []bool // what the transaction sees
	others  int    // how many other sectors it has written
	pages   []int  // which of the map's it has
	open    bool
	lost    bool
	would   []bool // what the commit in which the disk died would have made; nil, if there was none
	trouble bool   // the disk is dead, or will die
}

func newBench(t *testing.T, r *rand.Rand) *bench {
	t.Helper()
	count := counts()[r.Intn(len(counts()))]
	if r.Intn(2) == 0 {
		count = 1 + r.Intn(40)
	}
	taken := some(r, count, r.Intn(5))
	size := 128 + r.Intn(3)
	at := 19 + r.Intn(size-19-pagesOf(count)+1)
	b := &bench{at: at, count: count, last: setOf(count, taken), now: setOf(count, taken)}
	b.d = loaded(t, image(t, size, at, pages(t, count, taken...)...))
	b.enter(t, r)
	return b
}

// enter opens the pool and the maps.
func (b *bench) enter(t *testing.T, r *rand.Rand) {
	t.Helper()
	b.p = pooled(t, b.d, []int{0, 1, 2, 3, 8, 64}[r.Intn(6)])
	for k := range b.maps {
		b.maps[k] = opened(t, b.p, b.at, b.count)
	}
}

// setOf is a set of numbers below count.
func setOf(count int, taken []int) []bool {
	set := make([]bool, count)
	for _, i := range taken {
		set[i] = true
	}
	return set
}

// isDeath tells whether an error is that of a disk that is dead: which pages are read is not said, so it may be told or not, until it was told once.
func (b *bench) isDeath(t *testing.T, e api.Errno) bool {
	t.Helper()
	if b.lost && e != api.ErrDead || e == api.ErrDead && !b.lost && !b.d.Dead() {
		t.Fatalf("%d, of a pool that is lost (%v) and a disk that is dead (%v)", e, b.lost, b.d.Dead())
	}
	b.lost = b.lost || e == api.ErrDead
	return b.lost
}

// fits tells whether the transaction may write the page of a place, and lets it be written.
func (b *bench) fits(place int) bool {
	k := place / 256
	if slices.Contains(b.pages, k) {
		return true
	}
	if len(b.pages)+b.others == 16 {
		return false
	}
	b.pages = append(b.pages, k)
	return true
}

func (b *bench) alloc(t *testing.T, m *bitmap.Map) {
	t.Helper()
	i, e := m.Alloc()
	least := slices.Index(b.now, false)
	want := api.OK
	switch {
	case !b.open:
		want = api.ErrPoolNone
	case b.isDeath(t, e):
		want = api.ErrDead
	case least < 0:
		want = api.ErrBitmapFull
	case !b.fits(least):
		want = api.ErrPoolFull
	default:
		b.now[least] = true
		if i != least || e != api.OK {
			t.Fatalf("Alloc = %d, %d, want %d, OK", i, e, least)
		}
		return
	}
	if i != 0 || e != want {
		t.Fatalf("Alloc = %d, %d, want 0, %d", i, e, want)
	}
}

func (b *bench) free(t *testing.T, m *bitmap.Map, i int) {
	t.Helper()
	e := m.Free(i)
	want := api.OK
	switch {
	case i < 0 || i >= b.count:
		want = api.ErrBitmapPlace
	case !b.open:
		want = api.ErrPoolNone
	case b.isDeath(t, e):
		want = api.ErrDead
	case !b.now[i]:
		want = api.ErrBitmapFree
	case !b.fits(i):
		want = api.ErrPoolFull
	default:
		b.now[i] = false
	}
	if e != want {
		t.Fatalf("Free(%d) = %d, want %d", i, e, want)
	}
}

func (b *bench) used(t *testing.T, m *bitmap.Map, i int) {
	t.Helper()
	u, e := m.Used(i)
	want, errno := false, api.OK
	switch {
	case i < 0 || i >= b.count:
		errno = api.ErrBitmapPlace
	case b.isDeath(t, e):
		errno = api.ErrDead
	default:
		want = b.now[i]
	}
	if u != want || e != errno {
		t.Fatalf("Used(%d) = %v, %d, want %v, %d", i, u, e, want, errno)
	}
}

func (b *bench) list(t *testing.T, m *bitmap.Map) {
	t.Helper()
	l, e := m.List()
	if b.isDeath(t, e) {
		if len(l) != 0 || e != api.ErrDead {
			t.Fatalf("List = %v, %d, want ErrDead", l, e)
		}
		refusesLists(t, m, api.ErrDead)
		return
	}
	if !slices.Equal(l, members(b.now)) {
		t.Fatalf("List = %v, want %v", l, members(b.now))
	}
	if n, e := m.Count(); !b.isDeath(t, e) && n != len(l) {
		t.Fatalf("Count = %d, want %d", n, len(l))
	}
}

// ended lets no transaction be open in the model.
func (b *bench) ended(last []bool) {
	b.open, b.pages, b.others = false, nil, 0
	b.last, b.now = last, slices.Clone(last)
}

func (b *bench) commit(t *testing.T) {
	t.Helper()
	if !b.open {
		answers(t, "Commit", b.p.Commit(), api.ErrPoolNone)
		return
	}
	was, now, gone := b.last, b.now, b.lost || b.d.Dead()
	if e := b.p.Commit(); b.isDeath(t, e) {
		if !gone {
			b.would = now
		}
		b.ended(was)
		return
	}
	b.ended(now)
}

// reopen crashes the disk and opens all anew.
func (b *bench) reopen(t *testing.T, r *rand.Rand) {
	t.Helper()
	answers(t, "Crash", b.d.Crash(some(r, b.d.Pending(), 2)), api.OK)
	b.trouble, b.lost = false, false
	b.enter(t, r)
	l, e := b.maps[0].List()
	answers(t, "List", e, api.OK)
	if b.would != nil && slices.Equal(l, members(b.would)) {
		b.last = b.would
	}
	b.would = nil
	b.ended(b.last)
	lists(t, b.maps[0], members(b.now)...)
}

// place is one by chance, and now and then none.
func (b *bench) place(r *rand.Rand) int {
	if r.Intn(9) == 0 {
		return []int{-1, b.count, b.count + 1, 1024, 0, b.count - 1}[r.Intn(6)]
	}
	return r.Intn(b.count)
}

// byOthers writes a sector past the maps: one of theirs or another one.
func (b *bench) byOthers(t *testing.T, r *rand.Rand) {
	t.Helper()
	if k := r.Intn(pagesOf(b.count)); r.Intn(2) == 0 && b.open && !b.lost && b.fits(256*k) {
		for i := 256 * k; i < min(256*k+256, b.count); i++ {
			b.now[i] = r.Intn(2) == 0
		}
		write(t, b.p, b.at+k, page(t, 3, k, body(k, members(b.now)...)))
		return
	}
	for i := 19; i < b.p.Size() && b.open && !b.lost && r.Intn(8) > 0; i++ {
		own := i >= b.at && i < b.at+pagesOf(b.count)
		if !own && !slices.Contains(b.p.Dirty(), i) && len(b.p.Dirty()) < 16 {
			write(t, b.p, i, text(i))
			b.others++
		}
	}
}

// step does one thing by chance.
func (b *bench) step(t *testing.T, r *rand.Rand) {
	t.Helper()
	m := b.maps[r.Intn(2)]
	switch k := r.Intn(100); {
	case k < 34:
		b.alloc(t, m)
	case k < 60:
		b.free(t, m, b.place(r))
	case k < 68:
		b.used(t, m, b.place(r))
	case k < 74:
		b.list(t, m)
	case k < 84:
		want := api.OK
		if b.open {
			want = api.ErrPoolOpen
		} else if b.lost {
			want = api.ErrDead
		}
		answers(t, "Begin", b.p.Begin(), want)
		b.open = b.open || want == api.OK
	case k < 90:
		b.commit(t)
	case k < 93:
		if b.p.Abort() == api.OK {
			b.ended(b.last)
		}
	case k < 96:
		b.byOthers(t, r)
	case k < 97 && !b.trouble:
		b.trouble = true
		dieAt(t, b.d, r.Intn(60))
	case b.trouble || k < 98:
		b.reopen(t, r)
	}
}

// own looks that the transaction has written the sectors that the model says, of the maps' pages.
func (b *bench) own(t *testing.T) {
	t.Helper()
	l := b.p.Dirty()
	if len(l) != len(b.pages)+b.others {
		t.Fatalf("Dirty = %v, want %v and %d others", l, b.pages, b.others)
	}
	for _, k := range b.pages {
		if !slices.Contains(l, b.at+k) {
			t.Fatalf("Dirty = %v, without the page %d", l, k)
		}
	}
}

func TestB5AnyCallsAgreeWithASet(t *testing.T) {
	for seed := range int64(150) {
		r := rand.New(rand.NewSource(seed))
		benches := []*bench{newBench(t, r), newBench(t, r), newBench(t, r)}
		for range 500 {
			benches[r.Intn(len(benches))].step(t, r)
			// All are looked at, so that one is seen to be as it was while another one is used.
			for _, b := range benches {
				b.own(t)
			}
		}
		for _, b := range benches {
			b.list(t, b.maps[0])
		}
	}
}
