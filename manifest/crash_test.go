package manifest_test

import (
	"math/rand"
	"slices"
	"testing"

	"strongbox/api"
	"strongbox/disk"
	"strongbox/pool"
)

// change is what a transaction does to a sample, and what stands behind it.
type change struct {
	do   func(t *testing.T, w *parts)
	want state
}

func changes() []change {
	m := sample()
	a, b, c := m.of(0), m.of(2), m.of(5)
	return []change{
		{func(t *testing.T, w *parts) {}, m},
		{func(t *testing.T, w *parts) { w.creates(t, 3, 3, 7) }, m.with(bare(7, 3, 3))},
		{func(t *testing.T, w *parts) { w.destroys(t, 2, api.OK) }, m.without(2)},
		{func(t *testing.T, w *parts) { w.sets(t, 0, 58, entry(1), 0) }, m.with(a.set(58, -1, entry(1)))},
		{func(t *testing.T, w *parts) { w.sets(t, 0, 7, entry(1), 0) }, m.with(a.set(7, -1, entry(1)))},
		{func(t *testing.T, w *parts) { w.sets(t, 2, 0, entry(1), 1) }, m.with(b.set(0, 7, entry(1)))},
		{func(t *testing.T, w *parts) { w.clears(t, 0, 1, 0) }, m.with(a.clear(1))},
		{func(t *testing.T, w *parts) { w.clears(t, 5, 59, 1) }, m.with(c.clear(59))},
		{func(t *testing.T, w *parts) {
			w.clears(t, 5, 59, 1)
			w.destroys(t, 5, api.OK)
			w.creates(t, 5, 5, 4)
			w.sets(t, 4, 33, entry(2), 1)
		}, m.without(5).with(bare(4, 5, 5).set(33, 5, entry(2)))},
		{func(t *testing.T, w *parts) {
			w.sets(t, 0, 3, entry(3), 1)
			w.sets(t, 2, 3, entry(3), 1)
			w.sets(t, 5, 3, entry(3), 1)
			w.creates(t, 8, 0, 11)
			w.clears(t, 0, 7, 1)
		}, m.with(a.set(3, 7, entry(3)).clear(7), b.set(3, 9, entry(3)), c.set(3, 10, entry(3)), bare(11, 8, 0))},
	}
}

// outlines holds what a store tells of all volumes against what stands, by a few calls.
func (w *parts) outlines(t *testing.T, m state) {
	t.Helper()
	for _, v := range m.volumes {
		w.maps(t, v.root, len(v.mapped()), len(v.places()), api.OK)
		l, entries := w.told(v.root)
		if !slices.Equal(l, v.mapped()) {
			t.Fatalf("Each(%d) tells %v, want %v", v.root, l, v.mapped())
		}
		for k, block := range l {
			if entries[k] != v.blocks[block] {
				t.Fatalf("Each(%d) tells %q of %d", v.root, entries[k], block)
			}
		}
	}
	for root := range places {
		if m.at(root) < 0 {
			w.maps(t, root, 0, 0, api.ErrManifestForm)
		}
	}
	w.isTaken(t, m.taken())
}

func TestM9BehindAnAbortItIsAsAtBegin(t *testing.T) {
	for _, c := range changes() {
		for _, keep := range []int{0, 1, 64} {
			w := made(t, keep, places, sample())
			w.begin(t)
			c.do(t, w)
			w.tells(t, c.want)
			w.sees(t, c.want)
			w.abort(t)
			w.tells(t, sample())
			w.sees(t, sample())
			if len(w.d.Trace()) != 0 {
				t.Fatalf("acts %v", w.d.Trace())
			}
			// It can be used.
			w.begin(t)
			c.do(t, w)
			w.tells(t, c.want)
		}
	}
}

func TestM9AStoreThatIsOpenedBehindACommitTellsTheSame(t *testing.T) {
	for _, c := range changes() {
		for _, keep := range []int{0, 1, 64} {
			w := made(t, keep, places, sample())
			w.begin(t)
			c.do(t, w)
			// What is not committed is not on the disk.
			opened(t, w.d, keep, places).tells(t, sample())
			w.commit(t)
			w.tells(t, c.want)
			w.sees(t, c.want)
			opened(t, w.d, keep, places).tells(t, c.want)
			opened(t, loaded(t, w.d.Image()), keep, places).tells(t, c.want)
			answers(t, "Crash", w.d.Crash(nil), api.OK)
			v := opened(t, w.d, keep, places)
			v.tells(t, c.want)
			v.sees(t, c.want)
		}
	}
}

// Sectors that are no page of a volume are let be.
func TestM8ACommitLeavesOtherSectorsAsTheyWere(t *testing.T) {
	for _, c := range changes() {
		w := made(t, 4, places, sample())
		was := w.d.Image()
		w.begin(t)
		c.do(t, w)
		w.commit(t)
		now := w.d.Image()
		pages := c.want.pages(t)
		for i := 20; i < len(now); i++ {
			want, isPage := pages[i-first(places)]
			if !isPage {
				want = was[i]
			}
			if now[i] != want {
				t.Fatalf("the sector %d is changed", i)
			}
		}
	}
}

func TestM9AnOpenTransactionIsGoneBehindACrash(t *testing.T) {
	for _, c := range changes() {
		w := made(t, 3, places, sample())
		w.begin(t)
		c.do(t, w)
		w.kill(t)
		answers(t, "Crash", w.d.Crash(nil), api.OK)
		opened(t, w.d, 3, places).tells(t, sample())
	}
}

// dieAt lets a disk die at its n-th act from now on; 0: it is dead.
func (w *parts) dieAt(t *testing.T, n int) {
	t.Helper()
	if n == 0 {
		w.kill(t)
		return
	}
	answers(t, "Arm", w.d.Arm(n), api.OK)
}

// keeps are choices among so many pending writes: none, all, each second one, the first and the last half, and by chance.
func keeps(r *rand.Rand, pending int) [][]int {
	all := upTo(pending)
	even := slices.DeleteFunc(upTo(pending), func(n int) bool { return n%2 == 1 })
	odd := slices.DeleteFunc(upTo(pending), func(n int) bool { return n%2 == 0 })
	return [][]int{nil, all, even, odd, all[:pending/2], all[pending/2:], some(r, pending, 2)}
}

// isDead looks at a store whose disk died in a Commit.
func (w *parts) isDead(t *testing.T) {
	t.Helper()
	for range 2 {
		w.refusesCreate(t, 1, 1, api.ErrPoolNone)
		w.refusesCreate(t, 0, 1, api.ErrArg)
		for _, root := range []int{0, 2, 7, -1} {
			w.refusesSet(t, root, 0, entry(1), api.ErrPoolNone)
			w.refusesClear(t, root, 0, api.ErrPoolNone)
			w.destroys(t, root, api.ErrPoolNone)
			want := api.ErrDead
			if root < 0 {
				want = api.ErrManifestForm
			}
			w.isNone(t, root, want)
		}
		answers(t, "Begin", w.p.Begin(), api.ErrDead)
	}
}

// isOnDisk tells whether just this lasts: the map's pages, and the sectors of all places that are taken.
func (w *parts) isOnDisk(t *testing.T, m state) bool {
	t.Helper()
	l, pages := w.d.Image(), m.pages(t)
	if !slices.Equal(l[19:19+pagesOf(w.count)], m.bitmapPages(t, w.count)) {
		return false
	}
	for _, place := range m.taken() {
		want, isPage := pages[place]
		if !isPage {
			want = text(1000000 + w.sectorAt(place))
		}
		if l[w.sectorAt(place)] != want {
			return false
		}
	}
	return true
}

// settled looks at a store that is opened anew behind a commit in which the disk died at this act.
func settled(t *testing.T, d *disk.Disk, act int, want state) {
	t.Helper()
	w := opened(t, d, 3, places)
	isOld, isNew := w.isOnDisk(t, sample()), w.isOnDisk(t, want)
	if !isOld && !isNew || act < 19 && !isOld || act > 19 && !isNew {
		t.Fatalf("dead at %d: neither the old nor the new stands", act)
	}
	m := want
	if isOld && !isNew {
		m = sample()
	}
	w.outlines(t, m)
	// It can be used.
	v := m.of(0)
	w.begin(t)
	for _, block := range v.mapped()[:3] {
		if _, e := w.s.Clear(0, block); e != api.OK {
			t.Fatalf("Clear of %d = %d", block, e)
		}
		v = v.clear(block)
	}
	w.commit(t)
	w.outlines(t, m.with(v))
	opened(t, d, 3, places).outlines(t, m.with(v))
}

func TestM9ADeathInACommitLeavesTheOldOrTheNewAsAWhole(t *testing.T) {
	r := rand.New(rand.NewSource(1))
	for _, c := range changes() {
		for n := range 39 {
			for choice := range 7 {
				w := made(t, choice, places, sample())
				w.begin(t)
				c.do(t, w)
				w.dieAt(t, n)
				answers(t, "Commit", w.p.Commit(), api.ErrDead)
				w.isDead(t)
				answers(t, "Crash", w.d.Crash(keeps(r, w.d.Pending())[choice]), api.OK)
				w.isDead(t)
				settled(t, w.d, n, c.want)
			}
		}
	}
}

func TestM9ManyDeathsOneBehindTheOther(t *testing.T) {
	for seed := range int64(300) {
		r := rand.New(rand.NewSource(seed))
		c := changes()[r.Intn(len(changes()))]
		n := 1 + r.Intn(38)
		w := made(t, 3, places, sample())
		w.begin(t)
		c.do(t, w)
		w.dieAt(t, n)
		answers(t, "Commit", w.p.Commit(), api.ErrDead)
		for p := (*pool.Pool)(nil); p == nil; {
			answers(t, "Crash", w.d.Crash(some(r, w.d.Pending(), 2)), api.OK)
			answers(t, "Arm", w.d.Arm(r.Intn(22)), api.OK)
			p, _ = pool.Open(w.d, 3)
		}
		answers(t, "Arm", w.d.Arm(0), api.OK)
		settled(t, w.d, n, c.want)
	}
}
