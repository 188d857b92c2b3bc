package pool_test

import (
	"math"
	"testing"

	"strongbox/api"
	"strongbox/disk"
	"strongbox/journal"
	"strongbox/pool"
)

// notIn are no sectors of a disk of so many.
func notIn(size int) []int {
	return []int{-1, size, -2, size + 1, 65536 + 20, 1 << 32, 1<<32 + 20, 1 << 62, math.MaxInt, math.MinInt}
}

func Test6_3ReadTellsEachSectorOfTheDisk(t *testing.T) {
	for _, n := range []int{128, 1024} {
		for _, keep := range []int{0, 1, 5, 64} {
			l := image(n)
			p := opened(t, loaded(t, l), keep)
			for i := range n {
				reads(t, p, i, l[i])
				counts(t, p, 0, i+1, min(i+1, keep))
			}
		}
	}
}

func Test6_3ReadRefusesSectors(t *testing.T) {
	for _, n := range []int{128, 300, 1024} {
		d := loaded(t, image(n))
		p := opened(t, d, 3)
		for _, lost := range []bool{false, true} {
			if lost {
				lose(t, d, p, 20)
			}
			for _, i := range notIn(n) {
				refusesRead(t, p, i, api.ErrDiskSector)
			}
			counts(t, p, 0, 0, 0)
		}
		refusesRead(t, p, n-1, api.ErrDead)
	}
}

func Test6_3WrongSectorsDoNotLoseThePool(t *testing.T) {
	_, p := clean(t, 3)
	reads(t, p, 0, text(1000000))
	refusesRead(t, p, -1, api.ErrDiskSector)
	refusesRead(t, p, 128, api.ErrDiskSector)
	counts(t, p, 0, 1, 1)
	reads(t, p, 127, text(1000127))
	answers(t, "Begin", p.Begin(), api.OK)
}

func Test6_3WhatIsAtHandIsAHit(t *testing.T) {
	for _, keep := range []int{1, 2, 64} {
		d, p := clean(t, keep)
		reads(t, p, 40, text(1000040))
		counts(t, p, 0, 1, 1)
		for n := range 5 {
			reads(t, p, 40, text(1000040))
			counts(t, p, n+1, 1, 1)
		}
		did(t, d, 0, nil)
	}
}

func Test6_3WithKeep0NothingIsEverAtHand(t *testing.T) {
	_, p := clean(t, 0)
	for n := range 5 {
		reads(t, p, 40, text(1000040))
		counts(t, p, 0, n+1, 0)
	}
	committed(t, p, 40)
	counts(t, p, 0, 5, 0)
	reads(t, p, 40, text(40))
	counts(t, p, 0, 6, 0)
}

func Test6_3WithKeep1EachOtherSectorIsAMiss(t *testing.T) {
	_, p := clean(t, 1)
	for n := range 5 {
		reads(t, p, 40, text(1000040))
		reads(t, p, 40, text(1000040))
		reads(t, p, 41, text(1000041))
		counts(t, p, n+1, 2*n+2, 1)
	}
}

func Test6_3WithKeep64TheSixtyFifthLetsOneGo(t *testing.T) {
	_, p := clean(t, 64)
	for i := range 64 {
		reads(t, p, 30+i, text(1000030+i))
	}
	counts(t, p, 0, 64, 64)
	for i := range 64 {
		reads(t, p, 30+i, text(1000030+i))
	}
	counts(t, p, 64, 64, 64)
	reads(t, p, 20, text(1000020))
	counts(t, p, 64, 65, 64)
	for i := 63; i > 0; i-- {
		reads(t, p, 30+i, text(1000030+i))
	}
	counts(t, p, 127, 65, 64)
	reads(t, p, 30, text(1000030))
	counts(t, p, 127, 66, 64)
}

func Test6_3TheLastOneGoes(t *testing.T) {
	d := loaded(t, image(128))
	after := func(sectors ...int) func() *pool.Pool {
		return func() *pool.Pool {
			p := opened(t, d, 4)
			for _, i := range sectors {
				reads(t, p, i, text(1000000+i))
			}
			return p
		}
	}
	holds(t, 4, after(20, 21, 22), 22, 21, 20)
	holds(t, 4, after(20, 21, 22, 23), 23, 22, 21, 20)
	holds(t, 4, after(20, 21, 22, 23, 24), 24, 23, 22, 21)
	holds(t, 4, after(20, 21, 22, 23, 20), 20, 23, 22, 21)
	holds(t, 4, after(20, 21, 22, 23, 20, 24), 24, 20, 23, 22)
	holds(t, 4, after(20, 21, 22, 23, 22), 22, 23, 21, 20)
	holds(t, 4, after(20, 21, 22, 23, 23), 23, 22, 21, 20)
	holds(t, 4, after(20, 21, 22, 23, 21, 22, 24, 20), 20, 24, 22, 21)
	holds(t, 4, after(0, 2, 18, 19, 99), 99, 19, 18, 2)
}

func Test6_3WhatTheTransactionWroteIsSeenAtOnce(t *testing.T) {
	for _, keep := range []int{0, 1, 64} {
		d, p := clean(t, keep)
		answers(t, "Begin", p.Begin(), api.OK)
		for n := range 3 {
			for _, i := range []int{19, 127, 60} {
				answers(t, "Write", p.Write(i, text(100*n+i)), api.OK)
				reads(t, p, i, text(100*n+i))
				reads(t, p, i, text(100*n+i))
			}
		}
		reads(t, p, 19, text(219))
		counts(t, p, 0, 0, 0)
		did(t, d, 0, nil)
	}
}

func Test6_3WhatTheTransactionWroteIsNotLaidToTheFront(t *testing.T) {
	d := loaded(t, image(128))
	holds(t, 3, func() *pool.Pool {
		p := opened(t, d, 3)
		for _, i := range []int{20, 21, 22} {
			reads(t, p, i, text(1000000+i))
		}
		begun(t, p, 20, 30)
		reads(t, p, 20, text(20))
		reads(t, p, 30, text(30))
		counts(t, p, 0, 3, 3)
		answers(t, "Abort", p.Abort(), api.OK)
		return p
	}, 22, 21, 20)
}

func Test6_3AReadWithinATransactionOfWhatItDidNotWrite(t *testing.T) {
	_, p := clean(t, 2)
	reads(t, p, 40, text(1000040))
	begun(t, p, 41)
	reads(t, p, 40, text(1000040))
	counts(t, p, 1, 1, 1)
	reads(t, p, 42, text(1000042))
	counts(t, p, 1, 2, 2)
	reads(t, p, 41, text(41))
	counts(t, p, 1, 2, 2)
}

func Test6_3ADeadDiskIsNotAskedForWhatIsAtHand(t *testing.T) {
	d, p := clean(t, 2)
	reads(t, p, 40, text(1000040))
	begun(t, p, 41)
	kill(t, d)
	reads(t, p, 40, text(1000040))
	reads(t, p, 41, text(41))
	counts(t, p, 1, 1, 1)
	answers(t, "Write", p.Write(42, text(42)), api.OK)
	answers(t, "Abort", p.Abort(), api.OK)
	answers(t, "Begin", p.Begin(), api.OK)
	refusesRead(t, p, 41, api.ErrDead)
	refusesRead(t, p, 40, api.ErrDead)
	counts(t, p, 1, 1, 1)
}

func Test6_3ADeadDiskThatNobodyAskedLosesNoPool(t *testing.T) {
	d, p := clean(t, 2)
	reads(t, p, 40, text(1000040))
	kill(t, d)
	reads(t, p, 40, text(1000040))
	answers(t, "Crash", d.Crash(nil), api.OK)
	reads(t, p, 41, text(1000041))
	committed(t, p, 41)
	counts(t, p, 1, 2, 2)
}

func Test6_3TheJournalsSectorsAreKeptAtHandToo(t *testing.T) {
	d, p := clean(t, 2)
	head := now(d)[1]
	reads(t, p, 1, head)
	committed(t, p)
	if now(d)[1] == head {
		t.Fatal("the commit has not written the head")
	}
	reads(t, p, 1, head)
	counts(t, p, 1, 1, 1)
	reads(t, p, 18, fill(0))
	reads(t, p, 20, text(1000020))
	reads(t, p, 1, now(d)[1])
	counts(t, p, 1, 4, 2)
}

func Test6_8StatsSizeAndDirtyChangeNothing(t *testing.T) {
	d := loaded(t, image(128))
	ask := func(p *pool.Pool) {
		for range 3 {
			p.Stats()
			p.Size()
			p.Dirty()
		}
	}
	made := func() *pool.Pool {
		p := opened(t, d, 3)
		m := newModel(d, 3)
		for _, i := range []int{20, 21, 20, 22, 23, 20} {
			ask(p)
			reads(t, p, i, text(1000000+i))
			m.read(i)
			ask(p)
			same(t, p, m)
		}
		answers(t, "Begin", p.Begin(), m.begin())
		for _, i := range []int{23, 40, 21} {
			answers(t, "Write", p.Write(i, text(i)), m.write(i, text(i)))
			ask(p)
			same(t, p, m)
		}
		answers(t, "Abort", p.Abort(), m.abort())
		ask(p)
		same(t, p, m)
		return p
	}
	holds(t, 3, made, 20, 23, 22)
	did(t, d, 0, nil)
}

func Test6_8StatsOfALostPool(t *testing.T) {
	d, p := clean(t, 2)
	reads(t, p, 40, text(1000040))
	reads(t, p, 40, text(1000040))
	reads(t, p, 41, text(1000041))
	lose(t, d, p, 42)
	for range 3 {
		counts(t, p, 1, 2, 2)
		refusesRead(t, p, 40, api.ErrDead)
		refusesRead(t, p, 42, api.ErrDead)
	}
}

func Test6_8CountsBeginAnewWithEachPool(t *testing.T) {
	d, p := clean(t, 2)
	reads(t, p, 40, text(1000040))
	reads(t, p, 40, text(1000040))
	counts(t, opened(t, d, 2), 0, 0, 0)
	counts(t, p, 1, 1, 1)
}

func Test6_6TheChaptersExample(t *testing.T) {
	d, e := disk.New(128)
	answers(t, "New", e, api.OK)
	answers(t, "Format", journal.Format(d), api.OK)
	p := opened(t, d, 2)
	a, b := fill('a'), fill('b')
	answers(t, "Write(19)", p.Write(19, a), api.ErrPoolNone)
	answers(t, "Write(18)", p.Write(18, a), api.ErrJournalPlace)
	answers(t, "Begin", p.Begin(), api.OK)
	answers(t, "Begin", p.Begin(), api.ErrPoolOpen)
	answers(t, "Write(20)", p.Write(20, a), api.OK)
	answers(t, "Write(19)", p.Write(19, b), api.OK)
	dirty(t, p, 19, 20)
	reads(t, p, 20, a)
	counts(t, p, 0, 0, 0)
	answers(t, "Abort", p.Abort(), api.OK)
	reads(t, p, 20, fill(0))
	counts(t, p, 0, 1, 1)
	answers(t, "Begin", p.Begin(), api.OK)
	answers(t, "Write(20)", p.Write(20, a), api.OK)
	answers(t, "Write(19)", p.Write(19, b), api.OK)
	acts := len(d.Trace())
	answers(t, "Commit", p.Commit(), api.OK)
	if n := len(d.Trace()) - acts; n != 38 {
		t.Fatalf("%d acts, want 38", n)
	}
	counts(t, p, 0, 1, 2)
	reads(t, p, 19, b)
	counts(t, p, 1, 1, 2)
	reads(t, p, 21, fill(0))
	counts(t, p, 1, 2, 2)
	reads(t, p, 20, a)
	counts(t, p, 1, 3, 2)
}
