package index_test

import (
	"math/rand"
	"slices"
	"testing"

	"strongbox/api"
	"strongbox/disk"
	"strongbox/index"
	"strongbox/pool"
)

// list is what stands at each place, plainly; nothing, where the count is 0.
type list []api.Slot

// listOf is one of so many places.
func listOf(count int, l ...api.Slot) list {
	all := make(list, count)
	for _, s := range l {
		all[s.Place] = s
	}
	return all
}

// standing is all that stands.
func (l list) standing() []api.Slot {
	return slices.DeleteFunc(slices.Clone(l), func(s api.Slot) bool { return s.Count == 0 })
}

// find tells where a digest stands first, or -1.
func (l list) find(digest string) int {
	return slices.IndexFunc(l, func(s api.Slot) bool { return s.Count > 0 && s.Digest == digest })
}

// isTwice tells whether a digest stands at two places.
func (l list) isTwice() bool {
	for i, s := range l {
		if s.Count > 0 && l.find(s.Digest) != i {
			return true
		}
	}
	return false
}

// bench is indexes over the same pages, and their model: plain lists.
type bench struct {
	d       *disk.Disk
	p       *pool.Pool
	indexes [2]*index.Index
	known   [2]list // what each of them knows
	first   int
	count   int
	last    list  // what was committed
	now     list  // what the transaction sees
	others  int   // how many other sectors it has written
	pages   []int // which of the indexes' it has
	open    bool
	lost    bool
	would   list // what the commit in which the disk died would have made; nil, if there was none
	trouble bool // the disk is dead, or will die
}

func newBench(t *testing.T, r *rand.Rand) *bench {
	t.Helper()
	count := []int{1, 5, 6, 7, 12, 13, 40, 120}[r.Intn(8)]
	stand := at(some(r, count, r.Intn(5))...)
	size := 128 + r.Intn(3)
	first := 19 + r.Intn(size-19-pagesOf(count)+1)
	b := &bench{first: first, count: count, last: listOf(count, stand...), now: listOf(count, stand...)}
	b.d = loaded(t, image(t, size, first, pages(t, count, stand...)...))
	b.enter(t, r)
	b.learn()
	return b
}

// learn lets the model's indexes know what was committed.
func (b *bench) learn() {
	for k := range b.known {
		b.known[k] = slices.Clone(b.last)
	}
}

// enter opens the pool and the indexes.
func (b *bench) enter(t *testing.T, r *rand.Rand) {
	t.Helper()
	b.p = pooled(t, b.d, []int{0, 1, 2, 3, 8, 64}[r.Intn(6)])
	for k := range b.indexes {
		b.indexes[k] = opened(t, b.p, b.first, b.count)
	}
}

// isDeath tells whether an error is that of a disk that is dead: which pages are at hand is not looked at here, so it may be told or not, until it was told once.
func (b *bench) isDeath(t *testing.T, e api.Errno) bool {
	t.Helper()
	if b.lost && e != api.ErrDead || e == api.ErrDead && !b.lost && !b.d.Dead() {
		t.Fatalf("%d, of a pool that is lost (%v) and a disk that is dead (%v)", e, b.lost, b.d.Dead())
	}
	b.lost = b.lost || e == api.ErrDead
	return b.lost
}

// fits tells whether the transaction may write a page, and lets it be written.
func (b *bench) fits(k int) bool {
	if slices.Contains(b.pages, k) {
		return true
	}
	if len(b.pages)+b.others == 16 {
		return false
	}
	b.pages = append(b.pages, k)
	return true
}

func (b *bench) put(t *testing.T, k int, s api.Slot) {
	t.Helper()
	e := b.indexes[k].Put(s)
	want := api.OK
	place := b.known[k].find(s.Digest)
	switch {
	case s.Place < 0 || s.Place >= b.count:
		want = api.ErrIndexPlace
	case len(s.Digest) != 32 || s.Count < 1 || s.Count > 65535:
		want = api.ErrIndexEntry
	case !b.open:
		want = api.ErrPoolNone
	case place >= 0 && place != s.Place:
		want = api.ErrIndexTwice
	case b.isDeath(t, e):
		want = api.ErrDead
	case !b.fits(s.Place / 6):
		want = api.ErrPoolFull
	default:
		b.known[k][s.Place], b.now[s.Place] = s, s
	}
	answers(t, "Put", e, want)
}

func (b *bench) clear(t *testing.T, k, i int) {
	t.Helper()
	e := b.indexes[k].Clear(i)
	want := api.OK
	switch {
	case i < 0 || i >= b.count:
		want = api.ErrIndexPlace
	case !b.open:
		want = api.ErrPoolNone
	case b.known[k][i].Count == 0:
		want = api.ErrIndexNone
	case b.isDeath(t, e):
		want = api.ErrDead
	case !b.fits(i / 6):
		want = api.ErrPoolFull
	default:
		b.known[k][i], b.now[i] = api.Slot{}, api.Slot{}
	}
	answers(t, "Clear", e, want)
}

func (b *bench) reload(t *testing.T, k int) {
	t.Helper()
	e := b.indexes[k].Reload()
	want := api.OK
	switch {
	case b.isDeath(t, e):
		want = api.ErrDead
	case b.now.isTwice():
		want = api.ErrIndexForm
	default:
		b.known[k] = slices.Clone(b.now)
	}
	answers(t, "Reload", e, want)
}

// ended lets no transaction be open in the model.
func (b *bench) ended(last list) {
	b.open, b.pages, b.others = false, nil, 0
	b.last, b.now = last, slices.Clone(last)
}

func (b *bench) commit(t *testing.T) {
	t.Helper()
	if !b.open {
		answers(t, "Commit", b.p.Commit(), api.ErrPoolNone)
		return
	}
	// No index could be opened any more on such pages.
	if b.now.isTwice() {
		abort(t, b.p)
		b.ended(b.last)
		return
	}
	was, now, gone := b.last, b.now, b.lost || b.d.Dead()
	if e := b.p.Commit(); b.isDeath(t, e) {
		if !gone {
			b.would = now
		}
		b.ended(was)
		return
	}
	b.ended(now)
	if l := b.d.Image()[b.first : b.first+pagesOf(b.count)]; !slices.Equal(l, pages(t, b.count, b.now.standing()...)) {
		t.Fatalf("the pages behind a Commit are %q", l)
	}
}

// reopen crashes the disk and opens all anew.
func (b *bench) reopen(t *testing.T, r *rand.Rand) {
	t.Helper()
	answers(t, "Crash", b.d.Crash(some(r, b.d.Pending(), 2)), api.OK)
	b.trouble, b.lost = false, false
	b.enter(t, r)
	if b.would != nil && slices.Equal(b.indexes[0].Each(), b.would.standing()) {
		b.last = b.would
	}
	b.would = nil
	b.ended(b.last)
	b.learn()
}

// place is one by chance, and now and then none.
func (b *bench) place(r *rand.Rand) int {
	if r.Intn(9) == 0 {
		return []int{-1, b.count, b.count + 1, 1024, 0, b.count - 1}[r.Intn(6)]
	}
	return r.Intn(b.count)
}

// slot is one by chance, and now and then none that may stand.
func (b *bench) slot(r *rand.Rand) api.Slot {
	s := slot(b.place(r), digest(r.Intn(b.count+20)), 1+r.Intn(65535))
	switch r.Intn(20) {
	case 0:
		s.Count = []int{-1, 0, 1, 65535, 65536}[r.Intn(5)]
	case 1:
		s.Digest = (s.Digest + "d")[:[]int{0, 31, 32, 33}[r.Intn(4)]]
	}
	return s
}

// byOthers writes a sector past the indexes: one of theirs or another one.
func (b *bench) byOthers(t *testing.T, r *rand.Rand) {
	t.Helper()
	if k := r.Intn(pagesOf(b.count)); r.Intn(2) == 0 && b.open && !b.lost && b.fits(k) {
		for i := 6 * k; i < min(6*k+6, b.count); i++ {
			b.now[i] = api.Slot{}
			if r.Intn(2) == 0 {
				b.now[i] = slot(i, digest(200+r.Intn(2000)), 1+r.Intn(65535))
			}
		}
		write(t, b.p, b.first+k, page(t, 4, k, body(k, b.now.standing()...)))
		return
	}
	for i := 19; i < b.p.Size() && b.open && !b.lost && r.Intn(8) > 0; i++ {
		own := i >= b.first && i < b.first+pagesOf(b.count)
		if !own && !slices.Contains(b.p.Dirty(), i) && len(b.p.Dirty()) < 16 {
			write(t, b.p, i, text(i))
			b.others++
		}
	}
}

func (b *bench) begin(t *testing.T) {
	t.Helper()
	want := api.OK
	if b.open {
		want = api.ErrPoolOpen
	} else if b.lost {
		want = api.ErrDead
	}
	answers(t, "Begin", b.p.Begin(), want)
	b.open = b.open || want == api.OK
}

// step does one thing by chance.
func (b *bench) step(t *testing.T, r *rand.Rand) {
	t.Helper()
	k := r.Intn(2)
	switch n := r.Intn(100); {
	case n < 40:
		b.put(t, k, b.slot(r))
	case n < 60:
		b.clear(t, k, b.place(r))
	case n < 74:
		b.reload(t, k)
	case n < 84:
		b.begin(t)
	case n < 90:
		b.commit(t)
	case n < 93:
		if b.p.Abort() == api.OK {
			b.ended(b.last)
		}
	case n < 95:
		b.byOthers(t, r)
	case n < 97 && !b.trouble:
		b.trouble = true
		dieAt(t, b.d, max(0, r.Intn(90)-30))
	case b.trouble && n < 99 || n < 98:
		b.reopen(t, r)
	}
}

// look holds what the indexes know and what the transaction has written against the model.
func (b *bench) look(t *testing.T, r *rand.Rand) {
	t.Helper()
	for k, x := range b.indexes {
		known := b.known[k]
		lists(t, x, known.standing()...)
		i := r.Intn(b.count)
		if known[i].Count > 0 {
			gets(t, x, known[i])
		} else {
			refusesGet(t, x, i, api.ErrIndexNone)
		}
		s := digest(r.Intn(b.count + 20))
		if i := known.find(s); i >= 0 {
			finds(t, x, s, i)
		} else {
			findsNot(t, x, s)
		}
	}
	l := b.p.Dirty()
	if len(l) != len(b.pages)+b.others {
		t.Fatalf("Dirty = %v, want %v and %d others", l, b.pages, b.others)
	}
	for _, k := range b.pages {
		if !slices.Contains(l, b.first+k) {
			t.Fatalf("Dirty = %v, without the page %d", l, k)
		}
		// No disk is asked for what the transaction has written.
		if !b.lost {
			holds(t, b.p, b.first+k, page(t, 4, k, body(k, b.now.standing()...)))
		}
	}
}

func TestI7AnyCallsAgreeWithAPlainList(t *testing.T) {
	for seed := range int64(120) {
		r := rand.New(rand.NewSource(seed))
		benches := []*bench{newBench(t, r), newBench(t, r), newBench(t, r)}
		for range 500 {
			benches[r.Intn(len(benches))].step(t, r)
			// All are looked at, so that one is seen to be as it was while another one is used.
			for _, b := range benches {
				b.look(t, r)
			}
		}
	}
}
