package pool_test

import (
	"slices"
	"testing"

	"strongbox/api"
	"strongbox/disk"
	"strongbox/journal"
	"strongbox/pool"
)

// rows are sectors that transactions write, in that order.
func rows() [][]int {
	return [][]int{nil, {19}, {127}, {127, 19}, {41, 40, 42, 40}, from(19, 16), {127, 19, 40, 39, 41, 100, 20, 126, 60, 61, 62, 63, 64, 25, 24, 23}}
}

// rising is a row without what stands there twice.
func rising(row []int) []int {
	return slices.Compact(slices.Sorted(slices.Values(row)))
}

func Test6_6CommitLetsItLast(t *testing.T) {
	for _, row := range rows() {
		for _, keep := range []int{0, 1, 3, 64} {
			d, p := clean(t, keep)
			want := behind(image(128), row...)
			committed(t, p, row...)
			did(t, d, 0, commitActs(rising(row)...))
			if d.Pending() != 0 || !slices.Equal(d.Image()[19:], want[19:]) {
				t.Fatalf("a Commit of %v does not last", row)
			}
			counts(t, p, 0, 0, min(keep, len(rising(row))))
			tellsFree(t, p, want)
			for range 2 {
				answers(t, "Commit", p.Commit(), api.ErrPoolNone)
				answers(t, "Write", p.Write(40, text(1)), api.ErrPoolNone)
			}
			did(t, d, 0, commitActs(rising(row)...))
		}
	}
}

func Test6_6AllCommitsDoTheSameActs(t *testing.T) {
	d, p := clean(t, 3)
	var shapes [][]api.Act
	for _, row := range rows() {
		acts := len(d.Trace())
		committed(t, p, row...)
		shape := d.Trace()[acts:]
		for n := range shape[19:35] {
			shape[19+n].Sector = 0
		}
		shapes = append(shapes, shape)
		if len(shape) != 38 || !slices.Equal(shape, shapes[0]) {
			t.Fatalf("a Commit of %v does the acts %v, that of nothing %v", row, shape, shapes[0])
		}
	}
}

func Test6_6OnlyCommitsDoActs(t *testing.T) {
	d, p := clean(t, 2)
	answers(t, "Arm", d.Arm(1), api.OK)
	for range 3 {
		answers(t, "Begin", p.Begin(), api.OK)
		answers(t, "Begin", p.Begin(), api.ErrPoolOpen)
		for i := range 128 {
			p.Read(i)
			p.Write(i, text(i))
		}
		p.Dirty()
		p.Stats()
		p.Size()
		answers(t, "Abort", p.Abort(), api.OK)
		answers(t, "Abort", p.Abort(), api.ErrPoolNone)
		answers(t, "Commit", p.Commit(), api.ErrPoolNone)
		answers(t, "Write", p.Write(40, text(1)), api.ErrPoolNone)
		opened(t, d, 3)
	}
	did(t, d, 0, nil)
	if d.Dead() || d.Pending() != 0 {
		t.Fatal("an act was done")
	}
	answers(t, "Begin", p.Begin(), api.OK)
	answers(t, "Commit of nothing", p.Commit(), api.ErrDead)
}

func Test6_6CommitsAreCountedByOneJournal(t *testing.T) {
	d, p := clean(t, 2)
	for n := range 5 {
		committed(t, p, 40+n)
		begun(t, p, 50)
		answers(t, "Abort", p.Abort(), api.OK)
		j, _, e := journal.Open(d)
		answers(t, "Open of a journal", e, api.OK)
		if j.Next() != n+2 {
			t.Fatalf("behind %d commits Next = %d", n+1, j.Next())
		}
	}
}

func Test6_6WhatIsAtHandBehindACommit(t *testing.T) {
	l := image(128)
	after := func(keep int, read []int, row ...int) func() *pool.Pool {
		return func() *pool.Pool {
			p := opened(t, loaded(t, l), keep)
			for _, i := range read {
				reads(t, p, i, l[i])
			}
			committed(t, p, row...)
			return p
		}
	}
	holds(t, 4, after(4, nil))
	holds(t, 4, after(4, nil, 40), 40)
	holds(t, 4, after(4, nil, 42, 40, 41), 42, 41, 40)
	holds(t, 4, after(4, nil, 44, 40, 43, 41, 42), 44, 43, 42, 41)
	holds(t, 4, after(4, nil, from(50, 16)...), 65, 64, 63, 62)
	holds(t, 1, after(1, nil, 41, 40), 41)
	holds(t, 0, after(0, nil, 41, 40))
	holds(t, 4, after(4, []int{20, 21, 22}), 22, 21, 20)
	holds(t, 4, after(4, []int{20, 21, 22, 23}, 40), 40, 23, 22, 21)
	holds(t, 4, after(4, []int{20, 21, 22, 23}, 21, 20), 21, 20, 23, 22)
	holds(t, 4, after(4, []int{20, 21, 22, 23}, 22), 22, 23, 21, 20)
	holds(t, 4, after(4, []int{20, 21, 22, 23}, 19, 21, 24), 24, 21, 19, 23)
	holds(t, 4, after(4, []int{20, 21, 22, 23}, 19, 20, 24, 25, 26), 26, 25, 24, 20)
}

func Test6_6WhatIsAtHandHasTheNewBytes(t *testing.T) {
	d, p := clean(t, 3)
	reads(t, p, 40, text(1000040))
	reads(t, p, 41, text(1000041))
	committed(t, p, 40, 42)
	counts(t, p, 0, 2, 3)
	kill(t, d)
	reads(t, p, 40, text(40))
	reads(t, p, 41, text(1000041))
	reads(t, p, 42, text(42))
	counts(t, p, 3, 2, 3)
}

func Test6_6CommitInEachState(t *testing.T) {
	states(func(open, full, lost bool) {
		d, p := in(t, open, full, lost)
		stats := p.Stats()
		want, row := api.OK, []int(nil)
		switch {
		case !open:
			want = api.ErrPoolNone
		case lost:
			want = api.ErrDead
		case full:
			row = from(60, 16)
		}
		answers(t, "Commit", p.Commit(), want)
		dirty(t, p)
		answers(t, "Abort", p.Abort(), api.ErrPoolNone)
		if want == api.OK {
			did(t, d, 0, commitActs(row...))
			return
		}
		did(t, d, 0, nil)
		if p.Stats() != stats {
			t.Fatalf("Stats = %+v, were %+v", p.Stats(), stats)
		}
	})
}

func Test6_6ACommitOfALostPoolLeavesWhatIsAtHand(t *testing.T) {
	d, p := clean(t, 3)
	reads(t, p, 40, text(1000040))
	reads(t, p, 41, text(1000041))
	begun(t, p, 42)
	lose(t, d, p, 30)
	answers(t, "Commit", p.Commit(), api.ErrDead)
	counts(t, p, 0, 2, 2)
}

func Test6_6ACommitOfALostPoolDoesNoActOnADiskThatLivesAgain(t *testing.T) {
	d, p := clean(t, 3)
	begun(t, p, 42)
	lose(t, d, p, 30)
	answers(t, "Crash", d.Crash(nil), api.OK)
	answers(t, "Commit", p.Commit(), api.ErrDead)
	did(t, d, 0, nil)
	reads(t, opened(t, d, 3), 42, text(1000042))
}

func Test6_6NothingIsAtHandBehindACommitInWhichTheDiskDied(t *testing.T) {
	for at := 0; at <= 38; at++ {
		for _, row := range [][]int{nil, {40}, {40, 50}, from(50, 16)} {
			d, p := clean(t, 3)
			reads(t, p, 40, text(1000040))
			reads(t, p, 40, text(1000040))
			reads(t, p, 41, text(1000041))
			begun(t, p, row...)
			dieAt(t, d, at)
			answers(t, "Commit", p.Commit(), api.ErrDead)
			did(t, d, 0, commitActs(rising(row)...)[:max(at-1, 0)])
			for range 2 {
				counts(t, p, 1, 2, 0)
				dirty(t, p)
				// First of all, for a Read of a dead disk would lose the pool by itself.
				answers(t, "Begin", p.Begin(), api.ErrDead)
				refusesRead(t, p, 40, api.ErrDead)
				answers(t, "Commit", p.Commit(), api.ErrPoolNone)
				answers(t, "Abort", p.Abort(), api.ErrPoolNone)
				answers(t, "Write", p.Write(40, text(1)), api.ErrPoolNone)
			}
			answers(t, "Crash", d.Crash(nil), api.OK)
			answers(t, "Begin of a disk that lives again", p.Begin(), api.ErrDead)
			refusesRead(t, p, 40, api.ErrDead)
		}
	}
}

// dieAt lets a disk die at its n-th act from now on; 0: it is dead.
func dieAt(t *testing.T, d *disk.Disk, n int) {
	t.Helper()
	if n == 0 {
		kill(t, d)
		return
	}
	answers(t, "Arm", d.Arm(n), api.OK)
}

func Test6_6ADiskThatDiesAtTheNextActBehindACommit(t *testing.T) {
	d, p := clean(t, 3)
	begun(t, p, 40, 41)
	answers(t, "Arm", d.Arm(39), api.OK)
	answers(t, "Commit", p.Commit(), api.OK)
	counts(t, p, 0, 0, 2)
	begun(t, p, 42)
	answers(t, "Commit", p.Commit(), api.ErrDead)
	counts(t, p, 0, 0, 0)
}

func Test6_1TwoPoolsOverTwoDisksInTurns(t *testing.T) {
	a, p := clean(t, 2)
	b := loaded(t, image(200))
	q := opened(t, b, 0)
	answers(t, "Begin", p.Begin(), api.OK)
	answers(t, "Commit of the other", q.Commit(), api.ErrPoolNone)
	answers(t, "Begin of the other", q.Begin(), api.OK)
	answers(t, "Write", p.Write(40, text(1)), api.OK)
	answers(t, "Write of the other", q.Write(41, text(2)), api.OK)
	dirty(t, p, 40)
	dirty(t, q, 41)
	reads(t, p, 41, text(1000041))
	reads(t, q, 40, text(1000040))
	counts(t, p, 0, 1, 1)
	counts(t, q, 0, 1, 0)
	answers(t, "Commit", p.Commit(), api.OK)
	did(t, a, 0, commitActs(40))
	did(t, b, 0, nil)
	dirty(t, q, 41)
	lose(t, a, p, 100)
	reads(t, q, 41, text(2))
	answers(t, "Commit of the other", q.Commit(), api.OK)
	did(t, b, 0, commitActs(41))
	reads(t, q, 40, text(1000040))
	if p.Size() != 128 || q.Size() != 200 {
		t.Fatalf("Size = %d and %d", p.Size(), q.Size())
	}
	answers(t, "Begin", p.Begin(), api.ErrDead)
	answers(t, "Begin of the other", q.Begin(), api.OK)
}

func Test6_1OneThatIsOpenedBesideAnother(t *testing.T) {
	d, p := clean(t, 2)
	committed(t, p, 40)
	begun(t, p, 41)
	q := opened(t, d, 3)
	for i := range 128 {
		if i != 40 && i >= 19 {
			reads(t, q, i, text(1000000+i))
		}
	}
	reads(t, q, 40, text(40))
	begun(t, q, 40, 41, 42)
	reads(t, p, 41, text(41))
	dirty(t, p, 41)
	counts(t, p, 0, 0, 1)
	reads(t, p, 40, text(40))
	reads(t, p, 42, text(1000042))
	counts(t, p, 1, 1, 2)
	answers(t, "Commit", p.Commit(), api.OK)
	answers(t, "Abort of the other", q.Abort(), api.OK)
	did(t, d, 0, slices.Concat(commitActs(40), commitActs(41)))
	committed(t, p, 42)
	tellsFree(t, p, behind(image(128), 40, 41, 42))
}

// A text that is a piece of a longer one, and one that is made of bytes which are changed behind the call.
func TestR2WhatIsWrittenStaysWhatItWas(t *testing.T) {
	_, p := clean(t, 2)
	b := []byte(text(3) + text(4) + text(5))
	s := string(b)
	begun(t, p)
	answers(t, "Write", p.Write(40, s[256:512]), api.OK)
	clear(b)
	reads(t, p, 40, text(4))
	answers(t, "Commit", p.Commit(), api.OK)
	reads(t, p, 40, text(4))
}
