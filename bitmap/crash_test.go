package bitmap_test

import (
	"math/rand"
	"slices"
	"testing"

	"strongbox/api"
	"strongbox/bitmap"
	"strongbox/disk"
	"strongbox/pool"
)

func TestB5ATransactionSeesTheOneAheadOfIt(t *testing.T) {
	for _, keep := range []int{0, 1, 64} {
		for _, ended := range []string{"commit", "abort"} {
			d, p, m := made(t, keep, 300, upTo(254)...)
			begin(t, p)
			allocs(t, m, 254)
			allocs(t, m, 255)
			allocs(t, m, 256)
			frees(t, m, 3, api.OK)
			want := upTo(254)
			if ended == "commit" {
				commit(t, p)
				want = without(upTo(257), 3)
			} else {
				abort(t, p)
			}
			tells(t, m, 300, want...)
			begin(t, p)
			dirty(t, p)
			tells(t, m, 300, want...)
			if ended == "commit" {
				allocs(t, m, 3)
				allocs(t, m, 257)
			} else {
				allocs(t, m, 254)
			}
			// What was not committed is not on the disk.
			again := opened(t, pooled(t, d, keep), 19, 300)
			tells(t, again, 300, want...)
		}
	}
}

func TestB5AnotherPoolSeesWhatWasCommitted(t *testing.T) {
	d, p, m := made(t, 4, 300, 7)
	begin(t, p)
	allocs(t, m, 0)
	frees(t, m, 7, api.OK)
	tells(t, opened(t, pooled(t, d, 0), 19, 300), 300, 7)
	commit(t, p)
	tells(t, opened(t, pooled(t, d, 0), 19, 300), 300, 0)
	if l := d.Image()[19:21]; !slices.Equal(l, pages(t, 300, 0)) {
		t.Fatalf("the pages are %q", l)
	}
}

func TestB5ACommitLeavesOtherSectorsAsTheyWere(t *testing.T) {
	d, p, m := made(t, 4, 300, 7)
	was := d.Image()
	begin(t, p)
	allocs(t, m, 0)
	commit(t, p)
	was[19] = page(t, 3, 0, body(0, 0, 7))
	if l := d.Image()[19:]; !slices.Equal(l, was[19:]) {
		t.Fatal("other sectors are changed")
	}
}

// change is what a transaction does to a map of 600 places, and the set behind it.
type change struct {
	allocs []int
	frees  []int
	want   []int
}

// before is the set ahead of each change: all of the first page but one, some of the second one.
func before() []int { return append(without(upTo(256), 17), 256, 258, 511) }

func changes() []change {
	was := before()
	return []change{
		{want: was},
		{allocs: []int{17}, want: append(upTo(257), 258, 511)},
		{frees: []int{511}, want: without(was, 511)},
		{allocs: []int{17, 257}, want: append(upTo(259), 511)},
		{allocs: []int{17, 257}, frees: []int{0, 255}, want: without(append(upTo(259), 511), 0, 255)},
		{allocs: []int{17}, frees: was, want: []int{17}},
		{allocs: append(append([]int{17, 257}, from(259, 252)...), from(512, 88)...), want: upTo(600)},
	}
}

func (c change) do(t *testing.T, m *bitmap.Map) {
	t.Helper()
	for _, i := range c.allocs {
		allocs(t, m, i)
	}
	for _, i := range c.frees {
		frees(t, m, i, api.OK)
	}
}

// dieAt lets a disk die at its n-th act from now on; 0: it is dead.
func dieAt(t *testing.T, d *disk.Disk, n int) {
	t.Helper()
	if n == 0 {
		kill(t, d)
		return
	}
	answers(t, "Arm", d.Arm(n), api.OK)
}

// keeps are choices among so many pending writes: none, all, each second one, the first and the last half, and by chance.
func keeps(r *rand.Rand, pending int) [][]int {
	all := upTo(pending)
	even := slices.DeleteFunc(upTo(pending), func(n int) bool { return n%2 == 1 })
	odd := slices.DeleteFunc(upTo(pending), func(n int) bool { return n%2 == 0 })
	return [][]int{nil, all, even, odd, all[:pending/2], all[pending/2:], some(r, pending, 2)}
}

// isDead looks at a map whose disk died in a Commit.
func isDead(t *testing.T, p *pool.Pool, m *bitmap.Map) {
	t.Helper()
	for range 2 {
		refusesUsed(t, m, 0, api.ErrDead)
		refusesUsed(t, m, 599, api.ErrDead)
		refusesUsed(t, m, 600, api.ErrBitmapPlace)
		refusesLists(t, m, api.ErrDead)
		refusesAlloc(t, m, api.ErrPoolNone)
		frees(t, m, 0, api.ErrPoolNone)
		frees(t, m, -1, api.ErrBitmapPlace)
		refused(t, p, 19, 600, api.ErrDead)
	}
}

func TestB5ADeathInACommitLeavesTheOldSetOrTheNewOne(t *testing.T) {
	r := rand.New(rand.NewSource(1))
	for _, c := range changes() {
		for at := range 39 {
			for choice := range 7 {
				d, p, m := made(t, choice, 600, before()...)
				begin(t, p)
				c.do(t, m)
				dieAt(t, d, at)
				answers(t, "Commit", p.Commit(), api.ErrDead)
				isDead(t, p, m)
				answers(t, "Crash", d.Crash(keeps(r, d.Pending())[choice]), api.OK)
				isDead(t, p, m)
				settled(t, d, at, c.want)
			}
		}
	}
}

// settled looks at a map that is opened anew behind a commit in which the disk died at this act.
func settled(t *testing.T, d *disk.Disk, at int, want []int) {
	t.Helper()
	p := pooled(t, d, 3)
	m := opened(t, p, 19, 600)
	l, e := m.List()
	answers(t, "List", e, api.OK)
	isOld, isNew := slices.Equal(l, before()), slices.Equal(l, want)
	if !isOld && !isNew || at < 19 && !isOld || at > 19 && !isNew {
		t.Fatalf("dead at %d: the set is %v", at, l)
	}
	lists(t, m, l...)
	// It can be used.
	begin(t, p)
	frees(t, m, l[0], api.OK)
	commit(t, p)
	lists(t, m, l[1:]...)
}

func TestB5AnOpenTransactionIsGoneBehindACrash(t *testing.T) {
	for _, c := range changes() {
		d, p, m := made(t, 3, 600, before()...)
		begin(t, p)
		c.do(t, m)
		kill(t, d)
		answers(t, "Crash", d.Crash(nil), api.OK)
		lists(t, opened(t, pooled(t, d, 3), 19, 600), before()...)
	}
}

func TestB5WhatWasCommittedOutlivesACrash(t *testing.T) {
	for _, c := range changes() {
		d, p, m := made(t, 3, 600, before()...)
		begin(t, p)
		c.do(t, m)
		commit(t, p)
		lists(t, m, c.want...)
		answers(t, "Crash", d.Crash(nil), api.OK)
		lists(t, opened(t, pooled(t, d, 3), 19, 600), c.want...)
	}
}

func TestB5ManyDeathsOneBehindTheOther(t *testing.T) {
	for seed := range int64(300) {
		r := rand.New(rand.NewSource(seed))
		c := changes()[r.Intn(len(changes()))]
		at := 1 + r.Intn(38)
		d, p, m := made(t, 3, 600, before()...)
		begin(t, p)
		c.do(t, m)
		dieAt(t, d, at)
		answers(t, "Commit", p.Commit(), api.ErrDead)
		for p = nil; p == nil; {
			answers(t, "Crash", d.Crash(some(r, d.Pending(), 2)), api.OK)
			answers(t, "Arm", d.Arm(r.Intn(22)), api.OK)
			p, _ = pool.Open(d, 3)
		}
		answers(t, "Arm", d.Arm(0), api.OK)
		settled(t, d, at, c.want)
	}
}
