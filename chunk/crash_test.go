package chunk_test

import (
	"math/rand"
	"slices"
	"testing"

	"strongbox/api"
	"strongbox/disk"
	"strongbox/pool"
)

// before is what is there ahead of each change, in a store of 13 places.
func before() []stored {
	return with(at(1, 0, 5), stored{1, text(1), 2}, stored{6, text(6), 65535}, stored{12, text(12), 3})
}

// change is what a transaction does, and what is there behind it.
type change struct {
	saves, holds, drops []int // numbers of texts: what is saved comes last
	want                []stored
}

func changes() []change {
	was := before()
	fresh := at(1, 2, 3, 4, 7, 8, 9, 10, 11)
	return []change{
		{want: was},
		{holds: []int{0}, want: with(was, stored{0, text(0), 2})},
		{saves: []int{1}, want: with(was, stored{1, text(1), 3})},
		{saves: []int{50}, want: with(was, stored{2, text(50), 1})},
		{drops: []int{6}, want: with(was, stored{6, text(6), 65534})},
		{drops: []int{0}, want: without(was, 0)},
		{drops: []int{5}, saves: []int{50, 51}, want: with(without(was, 5), stored{2, text(50), 1}, stored{3, text(51), 1})},
		{drops: []int{0}, saves: []int{50}, want: with(was, stored{0, text(50), 1})},
		{drops: []int{0, 5}, saves: []int{5, 5}, want: with(without(was, 5), stored{0, text(5), 2})},
		{drops: []int{0, 1, 1, 5, 12, 12, 12}, want: without(was, 0, 1, 5, 12)},
		{saves: []int{2, 3, 4, 7, 8, 9, 10, 11}, want: with(was, fresh...)},
		{holds: []int{5}, drops: []int{12, 0}, saves: []int{0, 6 + 60}, want: with(was, stored{5, text(5), 2}, stored{12, text(12), 2}, stored{2, text(66), 1})},
	}
}

func (c change) do(t *testing.T, w *parts) {
	t.Helper()
	for _, n := range c.holds {
		w.holds(t, digest(text(n)), api.OK)
	}
	for _, n := range c.drops {
		if _, e := w.s.Drop(digest(text(n))); e != api.OK {
			t.Fatalf("Drop of %d = %d", n, e)
		}
	}
	for _, n := range c.saves {
		if _, _, e := w.s.Save(text(n)); e != api.OK {
			t.Fatalf("Save of %d = %d", n, e)
		}
	}
}

// isThere tells whether just this is there, as the index knows it.
func (w *parts) isThere(l []stored) bool {
	var slots []api.Slot
	for _, c := range l {
		slots = append(slots, c.slot())
	}
	return slices.Equal(w.x.Each(), slots)
}

func Test9_6BehindAnAbortAndReloadItIsAsAtBegin(t *testing.T) {
	for _, c := range changes() {
		for _, keep := range []int{0, 1, 64} {
			w := made(t, keep, 13, before()...)
			w.begin(t)
			c.do(t, w)
			w.tells(t, c.want...)
			w.sees(t, c.want...)
			w.abort(t)
			w.reload(t)
			w.tells(t, before()...)
			w.sees(t, before()...)
			if len(w.d.Trace()) != 0 {
				t.Fatalf("acts %v", w.d.Trace())
			}
			// It can be used.
			w.begin(t)
			c.do(t, w)
			w.tells(t, c.want...)
		}
	}
}

func Test9_6AStoreThatIsOpenedBehindACommitTellsTheSame(t *testing.T) {
	for _, c := range changes() {
		for _, keep := range []int{0, 1, 64} {
			w := made(t, keep, 13, before()...)
			w.begin(t)
			c.do(t, w)
			// What is not committed is not on the disk.
			opened(t, w.d, keep, 13).tells(t, before()...)
			w.commit(t)
			w.tells(t, c.want...)
			w.sees(t, c.want...)
			opened(t, w.d, keep, 13).tells(t, c.want...)
			opened(t, loaded(t, w.d.Image()), keep, 13).tells(t, c.want...)
			w.reload(t)
			w.tells(t, c.want...)
			w.reopen(t)
			w.tells(t, c.want...)
			if l := w.d.Image()[19:first(13)]; !slices.Equal(l, pages(t, 13, c.want)) {
				t.Fatalf("the pages are %q", l)
			}
			answers(t, "Crash", w.d.Crash(nil), api.OK)
			opened(t, w.d, keep, 13).tells(t, c.want...)
		}
	}
}

// Sectors of places that are free are let be, and so is all that is nobody's.
func Test9_6ACommitLeavesOtherSectorsAsTheyWere(t *testing.T) {
	for _, c := range changes() {
		w := made(t, 4, 13, before()...)
		was := w.d.Image()
		w.begin(t)
		c.do(t, w)
		w.commit(t)
		now := w.d.Image()
		for _, i := range append(upTo(13), from(13, 20)...) {
			want := was[w.sectorAt(i)]
			if k := slices.IndexFunc(c.want, func(c stored) bool { return c.place == i }); k >= 0 {
				want = c.want[k].cipher
			}
			if now[w.sectorAt(i)] != want {
				t.Fatalf("the sector of %d is changed", i)
			}
		}
	}
}

func Test9_6AnOpenTransactionIsGoneBehindACrash(t *testing.T) {
	for _, c := range changes() {
		w := made(t, 3, 13, before()...)
		w.begin(t)
		c.do(t, w)
		w.kill(t)
		answers(t, "Crash", w.d.Crash(nil), api.OK)
		opened(t, w.d, 3, 13).tells(t, before()...)
	}
}

// dieAt lets a disk die at its n-th act from now on; 0: it is dead.
func (w *parts) dieAt(t *testing.T, n int) {
	t.Helper()
	if n == 0 {
		w.kill(t)
		return
	}
	answers(t, "Arm", w.d.Arm(n), api.OK)
}

// keeps are choices among so many pending writes: none, all, each second one, the first and the last half, and by chance.
func keeps(r *rand.Rand, pending int) [][]int {
	all := upTo(pending)
	even := slices.DeleteFunc(upTo(pending), func(n int) bool { return n%2 == 1 })
	odd := slices.DeleteFunc(upTo(pending), func(n int) bool { return n%2 == 0 })
	return [][]int{nil, all, even, odd, all[:pending/2], all[pending/2:], some(r, pending, 2)}
}

// isDead looks at a store that knows this, whose disk died in a Commit.
func (w *parts) isDead(t *testing.T, known []stored) {
	t.Helper()
	for range 2 {
		w.refusesSave(t, text(0), api.ErrPoolNone)
		w.refusesSave(t, text(50), api.ErrPoolNone)
		w.refusesSave(t, "", api.ErrChunkSize)
		w.refuses(t, digest(text(6)), api.ErrPoolNone)
		w.refuses(t, "x", api.ErrPoolNone)
		for _, c := range known {
			w.refusesLoad(t, c.digest(), api.ErrDead)
		}
		w.refusesLoad(t, "x", api.ErrChunkNone)
		w.knows(t, known...)
		answers(t, "Begin", w.p.Begin(), api.ErrDead)
	}
}

// settled looks at a store that is opened anew behind a commit in which the disk died at this act.
func settled(t *testing.T, d *disk.Disk, act int, want []stored) {
	t.Helper()
	w := opened(t, d, 3, 13)
	l := before()
	isOld, isNew := w.isThere(l), w.isThere(want)
	if !isOld && !isNew || act < 19 && !isOld || act > 19 && !isNew {
		t.Fatalf("dead at %d: %v stands", act, w.x.Each())
	}
	if isNew {
		l = want
	}
	w.tells(t, l...)
	w.sees(t, l...)
	// It can be used.
	w.begin(t)
	var now []stored
	for _, c := range l {
		w.drops(t, c.digest(), c.count == 1)
		if c.count--; c.count > 0 {
			now = append(now, c)
		}
	}
	w.commit(t)
	w.tells(t, now...)
	opened(t, d, 3, 13).tells(t, now...)
}

func Test9_6ADeathInACommitLeavesTheOldOrTheNewAsAWhole(t *testing.T) {
	r := rand.New(rand.NewSource(1))
	for _, c := range changes() {
		for n := range 39 {
			for choice := range 7 {
				w := made(t, choice, 13, before()...)
				w.begin(t)
				c.do(t, w)
				w.dieAt(t, n)
				answers(t, "Commit", w.p.Commit(), api.ErrDead)
				w.isDead(t, c.want)
				answers(t, "Crash", w.d.Crash(keeps(r, w.d.Pending())[choice]), api.OK)
				w.isDead(t, c.want)
				settled(t, w.d, n, c.want)
			}
		}
	}
}

func Test9_6ManyDeathsOneBehindTheOther(t *testing.T) {
	for seed := range int64(300) {
		r := rand.New(rand.NewSource(seed))
		c := changes()[r.Intn(len(changes()))]
		n := 1 + r.Intn(38)
		w := made(t, 3, 13, before()...)
		w.begin(t)
		c.do(t, w)
		w.dieAt(t, n)
		answers(t, "Commit", w.p.Commit(), api.ErrDead)
		for p := (*pool.Pool)(nil); p == nil; {
			answers(t, "Crash", w.d.Crash(some(r, w.d.Pending(), 2)), api.OK)
			answers(t, "Arm", w.d.Arm(r.Intn(22)), api.OK)
			p, _ = pool.Open(w.d, 3)
		}
		answers(t, "Arm", w.d.Arm(0), api.OK)
		settled(t, w.d, n, c.want)
	}
}
