package index_test

import (
	"math/rand"
	"slices"
	"testing"

	"strongbox/api"
	"strongbox/disk"
	"strongbox/index"
	"strongbox/pool"
)

func TestI7WhatStandsIsFoundAndNothingElse(t *testing.T) {
	for _, count := range counts() {
		r := rand.New(rand.NewSource(int64(count)))
		stand := at(some(r, count, 2)...)
		_, _, x := made(t, 2, count, stand...)
		for i := range count + 40 {
			k := slices.IndexFunc(stand, func(s api.Slot) bool { return s.Digest == digest(i) })
			if k < 0 {
				findsNot(t, x, digest(i))
				continue
			}
			finds(t, x, digest(i), stand[k].Place)
		}
	}
}

func TestI7AnIndexThatIsOpenedBehindACommitKnowsTheSame(t *testing.T) {
	for _, keep := range []int{0, 1, 64} {
		d, p, x := made(t, keep, 13, at(0, 5, 6)...)
		begin(t, p)
		puts(t, x, slot(5, digest(50), 9), api.OK)
		puts(t, x, slot(12, digest(5), 65535), api.OK)
		clears(t, x, 0, api.OK)
		now := with(at(6), slot(5, digest(50), 9), slot(12, digest(5), 65535))
		// What is not committed is not on the disk.
		tells(t, opened(t, pooled(t, d, keep), 19, 13), 13, at(0, 5, 6)...)
		commit(t, p)
		tells(t, x, 13, now...)
		tells(t, opened(t, p, 19, 13), 13, now...)
		tells(t, opened(t, pooled(t, d, keep), 19, 13), 13, now...)
		reloads(t, x, api.OK)
		tells(t, x, 13, now...)
		if l := d.Image()[19:22]; !slices.Equal(l, pages(t, 13, now...)) {
			t.Fatalf("the pages are %q", l)
		}
	}
}

func TestI7BehindAnAbortAndReloadItKnowsWhatItKnewAtBegin(t *testing.T) {
	for _, c := range changes() {
		for _, keep := range []int{0, 1, 64} {
			d, p, x := made(t, keep, 40, before()...)
			begin(t, p)
			c.do(t, x)
			lists(t, x, c.want...)
			abort(t, p)
			lists(t, x, c.want...)
			reloads(t, x, api.OK)
			tells(t, x, 40, before()...)
			if len(d.Trace()) != 0 {
				t.Fatalf("acts %v", d.Trace())
			}
		}
	}
}

func TestI7ACommitLeavesOtherSectorsAsTheyWere(t *testing.T) {
	d, p, x := made(t, 4, 13, at(7)...)
	was := d.Image()
	begin(t, p)
	puts(t, x, at(0)[0], api.OK)
	commit(t, p)
	was[19] = page(t, 4, 0, body(0, at(0)...))
	if l := d.Image()[19:]; !slices.Equal(l, was[19:]) {
		t.Fatal("other sectors are changed")
	}
}

// change is what a transaction does to an index of 40 places, and what stands behind it.
type change struct {
	clears []int
	puts   []api.Slot
	want   []api.Slot
}

// before is what stands ahead of each change.
func before() []api.Slot { return at(0, 1, 5, 6, 12, 20, 33, 39) }

func changes() []change {
	was := before()
	other := func(place int) api.Slot { return slot(place, digest(100+place), 2+place) }
	var all []api.Slot
	for i := range 40 {
		all = append(all, other(i))
	}
	return []change{
		{want: was},
		{puts: at(2), want: with(was, at(2)...)},
		{puts: was[3:4], want: was},
		{puts: []api.Slot{other(6)}, want: with(was, other(6))},
		{clears: []int{39}, want: without(was, 39)},
		{clears: []int{0, 20}, puts: []api.Slot{slot(20, digest(0), 7), slot(0, digest(20), 8)}, want: with(was, slot(20, digest(0), 7), slot(0, digest(20), 8))},
		{clears: []int{0, 1, 5, 6, 12, 20, 33, 39}, puts: at(38), want: at(38)},
		{clears: []int{5}, puts: all, want: all},
	}
}

func (c change) do(t *testing.T, x *index.Index) {
	t.Helper()
	for _, i := range c.clears {
		clears(t, x, i, api.OK)
	}
	for _, s := range c.puts {
		puts(t, x, s, api.OK)
	}
}

// dieAt lets a disk die at its n-th act from now on; 0: it is dead.
func dieAt(t *testing.T, d *disk.Disk, n int) {
	t.Helper()
	if n == 0 {
		kill(t, d)
		return
	}
	answers(t, "Arm", d.Arm(n), api.OK)
}

// keeps are choices among so many pending writes: none, all, each second one, the first and the last half, and by chance.
func keeps(r *rand.Rand, pending int) [][]int {
	all := upTo(pending)
	even := slices.DeleteFunc(upTo(pending), func(n int) bool { return n%2 == 1 })
	odd := slices.DeleteFunc(upTo(pending), func(n int) bool { return n%2 == 0 })
	return [][]int{nil, all, even, odd, all[:pending/2], all[pending/2:], some(r, pending, 2)}
}

// isDead looks at an index that knows this, whose disk died in a Commit.
func isDead(t *testing.T, p *pool.Pool, x *index.Index, known []api.Slot) {
	t.Helper()
	for range 2 {
		puts(t, x, at(0)[0], api.ErrPoolNone)
		clears(t, x, 39, api.ErrPoolNone)
		clears(t, x, 40, api.ErrIndexPlace)
		reloads(t, x, api.ErrDead)
		refused(t, p, 19, 40, api.ErrDead)
		lists(t, x, known...)
	}
	tells(t, x, 40, known...)
}

func TestI7ADeathInACommitLeavesTheOldOrTheNewAsAWhole(t *testing.T) {
	r := rand.New(rand.NewSource(1))
	for _, c := range changes() {
		for n := range 39 {
			for choice := range 7 {
				d, p, x := made(t, choice, 40, before()...)
				begin(t, p)
				c.do(t, x)
				dieAt(t, d, n)
				answers(t, "Commit", p.Commit(), api.ErrDead)
				isDead(t, p, x, c.want)
				answers(t, "Crash", d.Crash(keeps(r, d.Pending())[choice]), api.OK)
				isDead(t, p, x, c.want)
				settled(t, d, n, c.want)
			}
		}
	}
}

// settled looks at an index that is opened anew behind a commit in which the disk died at this act.
func settled(t *testing.T, d *disk.Disk, act int, want []api.Slot) {
	t.Helper()
	p := pooled(t, d, 3)
	x := opened(t, p, 19, 40)
	l := x.Each()
	isOld, isNew := slices.Equal(l, before()), slices.Equal(l, want)
	if !isOld && !isNew || act < 19 && !isOld || act > 19 && !isNew {
		t.Fatalf("dead at %d: %v stands", act, l)
	}
	tells(t, x, 40, l...)
	// It can be used.
	begin(t, p)
	clears(t, x, l[0].Place, api.OK)
	puts(t, x, slot(3, l[0].Digest, 5), api.OK)
	commit(t, p)
	now := with(without(l, l[0].Place), slot(3, l[0].Digest, 5))
	tells(t, x, 40, now...)
	reloads(t, x, api.OK)
	tells(t, x, 40, now...)
}

func TestI7AnOpenTransactionIsGoneBehindACrash(t *testing.T) {
	for _, c := range changes() {
		d, p, x := made(t, 3, 40, before()...)
		begin(t, p)
		c.do(t, x)
		kill(t, d)
		answers(t, "Crash", d.Crash(nil), api.OK)
		tells(t, opened(t, pooled(t, d, 3), 19, 40), 40, before()...)
	}
}

func TestI7WhatWasCommittedOutlivesACrash(t *testing.T) {
	for _, c := range changes() {
		d, p, x := made(t, 3, 40, before()...)
		begin(t, p)
		c.do(t, x)
		commit(t, p)
		tells(t, x, 40, c.want...)
		answers(t, "Crash", d.Crash(nil), api.OK)
		tells(t, opened(t, pooled(t, d, 3), 19, 40), 40, c.want...)
	}
}

func TestI7ManyDeathsOneBehindTheOther(t *testing.T) {
	for seed := range int64(300) {
		r := rand.New(rand.NewSource(seed))
		c := changes()[r.Intn(len(changes()))]
		n := 1 + r.Intn(38)
		d, p, x := made(t, 3, 40, before()...)
		begin(t, p)
		c.do(t, x)
		dieAt(t, d, n)
		answers(t, "Commit", p.Commit(), api.ErrDead)
		for p = nil; p == nil; {
			answers(t, "Crash", d.Crash(some(r, d.Pending(), 2)), api.OK)
			answers(t, "Arm", d.Arm(r.Intn(22)), api.OK)
			p, _ = pool.Open(d, 3)
		}
		answers(t, "Arm", d.Arm(0), api.OK)
		settled(t, d, n, c.want)
	}
}
