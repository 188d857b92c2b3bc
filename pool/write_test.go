package pool_test

import (
	"slices"
	"testing"

	"strongbox/api"
	"strongbox/disk"
	"strongbox/pool"
)

// in is a pool of 128 sectors in such a state; a transaction that is full has written the sectors 60 to 75.
func in(t *testing.T, open, full, lost bool) (*disk.Disk, *pool.Pool) {
	t.Helper()
	d, p := clean(t, 2)
	if open {
		begun(t, p)
	}
	if full {
		for _, i := range from(60, 16) {
			answers(t, "Write", p.Write(i, text(i)), api.OK)
		}
	}
	if lost {
		lose(t, d, p, 30)
	}
	return d, p
}

// states calls for each state that a pool can be in: whether a transaction is open, and full, and whether the pool is lost.
func states(call func(open, full, lost bool)) {
	for _, lost := range []bool{false, true} {
		call(false, false, lost)
		call(true, false, lost)
		call(true, true, lost)
	}
}

func Test6_2BeginOpensOne(t *testing.T) {
	d, p := clean(t, 2)
	for range 3 {
		answers(t, "Begin", p.Begin(), api.OK)
		dirty(t, p)
		for range 2 {
			answers(t, "Begin", p.Begin(), api.ErrPoolOpen)
		}
		answers(t, "Write", p.Write(20, text(1)), api.OK)
		answers(t, "Begin", p.Begin(), api.ErrPoolOpen)
		dirty(t, p, 20)
		reads(t, p, 20, text(1))
		answers(t, "Abort", p.Abort(), api.OK)
	}
	answers(t, "Begin", p.Begin(), api.OK)
	answers(t, "Commit", p.Commit(), api.OK)
	answers(t, "Begin", p.Begin(), api.OK)
	did(t, d, 0, commitActs())
}

func Test6_2BeginInEachState(t *testing.T) {
	states(func(open, full, lost bool) {
		_, p := in(t, open, full, lost)
		want := api.OK
		switch {
		case open:
			want = api.ErrPoolOpen
		case lost:
			want = api.ErrDead
		}
		was := p.Dirty()
		answers(t, "Begin", p.Begin(), want)
		dirty(t, p, was...)
		// A Begin that was refused has opened none.
		if !open && lost {
			answers(t, "Abort", p.Abort(), api.ErrPoolNone)
		}
	})
}

func Test6_2ALostPoolIsLostEvenIfItsDiskLivesAgain(t *testing.T) {
	d, p := clean(t, 2)
	lose(t, d, p, 30)
	answers(t, "Crash", d.Crash(nil), api.OK)
	for range 2 {
		answers(t, "Begin", p.Begin(), api.ErrDead)
		refusesRead(t, p, 30, api.ErrDead)
	}
	answers(t, "Commit", p.Commit(), api.ErrPoolNone)
	answers(t, "Begin of one that is opened anew", opened(t, d, 2).Begin(), api.OK)
}

// wantWrite is what a Write must answer in a state, by the words of 6.4.
func wantWrite(i int, s string, open, full, lost bool) api.Errno {
	switch {
	case i < 0 || i > 127:
		return api.ErrDiskSector
	case i < 19:
		return api.ErrJournalPlace
	case len(s) != 256:
		return api.ErrDiskBytes
	case !open:
		return api.ErrPoolNone
	case lost:
		return api.ErrDead
	case full && (i < 60 || i > 75):
		return api.ErrPoolFull
	}
	return api.OK
}

func Test6_4WhichErrorWhereSeveralThingsAreWrong(t *testing.T) {
	sectors := append(notIn(128), 0, 1, 2, 17, 18, 19, 20, 59, 60, 75, 76, 126, 127)
	texts := []string{"", "x", fill(1)[1:], fill(1), fill(1) + "x", fill(1) + fill(1)}
	states(func(open, full, lost bool) {
		for _, i := range sectors {
			for _, s := range texts {
				d, p := in(t, open, full, lost)
				acts, was, stats := len(d.Trace()), p.Dirty(), p.Stats()
				want := wantWrite(i, s, open, full, lost)
				answers(t, "Write", p.Write(i, s), want)
				if want == api.OK {
					reads(t, p, i, s)
					was = slices.Compact(slices.Sorted(slices.Values(append(was, i))))
				}
				dirty(t, p, was...)
				if p.Stats() != stats {
					t.Fatalf("Write(%d): Stats = %+v, were %+v", i, p.Stats(), stats)
				}
				did(t, d, acts, nil)
			}
		}
	})
}

func Test6_4TheLastSectorOfEachSize(t *testing.T) {
	for _, n := range []int{128, 129, 300, 1024} {
		p := opened(t, loaded(t, image(n)), 2)
		begun(t, p, 19, n-1)
		answers(t, "Write behind the last", p.Write(n, text(1)), api.ErrDiskSector)
		answers(t, "Write ahead of the first", p.Write(18, text(1)), api.ErrJournalPlace)
		dirty(t, p, 19, n-1)
	}
}

func Test6_4TheSeventeenthSectorIsTooMany(t *testing.T) {
	_, p := clean(t, 2)
	begun(t, p, from(30, 15)...)
	answers(t, "the sixteenth", p.Write(127, text(1)), api.OK)
	answers(t, "the seventeenth", p.Write(19, text(2)), api.ErrPoolFull)
	for n, i := range append(from(30, 15), 127) {
		answers(t, "one of the sixteen", p.Write(i, text(500+n)), api.OK)
	}
	answers(t, "the seventeenth", p.Write(19, text(2)), api.ErrPoolFull)
	dirty(t, p, append(from(30, 15), 127)...)
	reads(t, p, 19, text(1000019))
	answers(t, "Commit", p.Commit(), api.OK)
	for n, i := range append(from(30, 15), 127) {
		reads(t, p, i, text(500+n))
	}
	begun(t, p, from(50, 16)...)
	answers(t, "Abort", p.Abort(), api.OK)
	begun(t, p, from(70, 16)...)
}

func Test6_4WhatWasWrittenOftenIsOneSector(t *testing.T) {
	_, p := clean(t, 2)
	begun(t, p)
	for n := range 100 {
		answers(t, "Write", p.Write(40, text(n)), api.OK)
	}
	dirty(t, p, 40)
	reads(t, p, 40, text(99))
	for _, i := range from(41, 15) {
		answers(t, "Write", p.Write(i, text(i)), api.OK)
	}
	answers(t, "the seventeenth", p.Write(60, text(1)), api.ErrPoolFull)
}

func Test6_4AWriteOfWhatIsThereIsAWrite(t *testing.T) {
	d, p := clean(t, 2)
	begun(t, p)
	answers(t, "Write", p.Write(40, text(1000040)), api.OK)
	dirty(t, p, 40)
	answers(t, "Commit", p.Commit(), api.OK)
	did(t, d, 0, commitActs(40))
	counts(t, p, 0, 0, 1)
}

func Test6_5DirtyIsRising(t *testing.T) {
	_, p := clean(t, 2)
	dirty(t, p)
	begun(t, p)
	dirty(t, p)
	var wrote []int
	for _, i := range []int{127, 19, 63, 64, 20, 126, 63, 100, 99, 127} {
		answers(t, "Write", p.Write(i, text(i)), api.OK)
		wrote = append(wrote, i)
		dirty(t, p, slices.Compact(slices.Sorted(slices.Values(wrote)))...)
	}
	answers(t, "Write", p.Write(18, text(18)), api.ErrJournalPlace)
	answers(t, "Write", p.Write(30, "x"), api.ErrDiskBytes)
	reads(t, p, 31, text(1000031))
	dirty(t, p, 19, 20, 63, 64, 99, 100, 126, 127)
	answers(t, "Commit", p.Commit(), api.OK)
	dirty(t, p)
	begun(t, p, 21)
	dirty(t, p, 21)
	answers(t, "Abort", p.Abort(), api.OK)
	dirty(t, p)
}

func Test6_5DirtyOfALostPool(t *testing.T) {
	d, p := clean(t, 2)
	begun(t, p, 50, 40)
	lose(t, d, p, 30)
	dirty(t, p, 40, 50)
	answers(t, "Commit", p.Commit(), api.ErrDead)
	dirty(t, p)
}

func TestR2WhatDirtyGivesIsTheCallers(t *testing.T) {
	_, p := clean(t, 2)
	begun(t, p, 50, 40, 60)
	first, second := p.Dirty(), p.Dirty()
	for i := range first[:cap(first)] {
		first[:cap(first)][i] = 77
	}
	if !slices.Equal(second, []int{40, 50, 60}) {
		t.Fatalf("what is written into a list is in another one: %v", second)
	}
	dirty(t, p, 40, 50, 60)
	answers(t, "Write", p.Write(45, text(45)), api.OK)
	answers(t, "Commit", p.Commit(), api.OK)
	if !slices.Equal(second, []int{40, 50, 60}) {
		t.Fatalf("a Write changed a list that came out ahead of it: %v", second)
	}
	for _, i := range []int{40, 45, 50, 60} {
		reads(t, p, i, text(i))
	}
	reads(t, p, 77, text(1000077))
}

func Test6_7AbortForgetsWhatWasWritten(t *testing.T) {
	for _, keep := range []int{0, 1, 3, 64} {
		d, p := clean(t, keep)
		reads(t, p, 40, text(1000040))
		begun(t, p, 40, 41, 127)
		answers(t, "Abort", p.Abort(), api.OK)
		dirty(t, p)
		for _, i := range []int{40, 41, 127} {
			reads(t, p, i, text(1000000+i))
		}
		for range 2 {
			answers(t, "Abort", p.Abort(), api.ErrPoolNone)
			answers(t, "Commit", p.Commit(), api.ErrPoolNone)
			answers(t, "Write", p.Write(40, text(1)), api.ErrPoolNone)
		}
		did(t, d, 0, nil)
		begun(t, p)
		dirty(t, p)
		reads(t, p, 41, text(1000041))
		answers(t, "Commit", p.Commit(), api.OK)
		did(t, d, 0, commitActs())
		tellsFree(t, p, image(128))
	}
}

func Test6_7AbortGoesBackToWhatWasCommitted(t *testing.T) {
	_, p := clean(t, 4)
	committed(t, p, 40, 41)
	answers(t, "Begin", p.Begin(), api.OK)
	answers(t, "Write", p.Write(40, fill(7)), api.OK)
	answers(t, "Abort", p.Abort(), api.OK)
	reads(t, p, 40, text(40))
	counts(t, p, 1, 0, 2)
}

func Test6_7AbortInEachState(t *testing.T) {
	states(func(open, full, lost bool) {
		d, p := in(t, open, full, lost)
		want := api.OK
		if !open {
			want = api.ErrPoolNone
		}
		stats := p.Stats()
		answers(t, "Abort", p.Abort(), want)
		dirty(t, p)
		if p.Stats() != stats {
			t.Fatalf("Stats = %+v, were %+v", p.Stats(), stats)
		}
		answers(t, "Abort", p.Abort(), api.ErrPoolNone)
		did(t, d, 0, nil)
	})
}

func Test6_7APoolThatIsLostWithinATransaction(t *testing.T) {
	for _, commits := range []bool{false, true} {
		d, p := clean(t, 2)
		reads(t, p, 40, text(1000040))
		begun(t, p, 50)
		lose(t, d, p, 30)
		for range 2 {
			refusesRead(t, p, 50, api.ErrDead)
			refusesRead(t, p, 40, api.ErrDead)
			refusesRead(t, p, 128, api.ErrDiskSector)
			answers(t, "Begin", p.Begin(), api.ErrPoolOpen)
			answers(t, "Write", p.Write(50, text(1)), api.ErrDead)
			answers(t, "Write", p.Write(51, text(1)), api.ErrDead)
			dirty(t, p, 50)
			counts(t, p, 0, 1, 1)
		}
		if commits {
			answers(t, "Commit", p.Commit(), api.ErrDead)
		} else {
			answers(t, "Abort", p.Abort(), api.OK)
		}
		for range 2 {
			dirty(t, p)
			counts(t, p, 0, 1, 1)
			answers(t, "Commit", p.Commit(), api.ErrPoolNone)
			answers(t, "Abort", p.Abort(), api.ErrPoolNone)
			answers(t, "Write", p.Write(50, text(1)), api.ErrPoolNone)
			answers(t, "Begin", p.Begin(), api.ErrDead)
			refusesRead(t, p, 40, api.ErrDead)
			refusesRead(t, p, 50, api.ErrDead)
		}
		did(t, d, 0, nil)
		answers(t, "Crash", d.Crash(nil), api.OK)
		tellsFree(t, opened(t, d, 2), image(128))
	}
}
