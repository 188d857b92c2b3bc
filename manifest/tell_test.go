package manifest_test

import (
	"iter"
	"math"
	"slices"
	"strings"
	"testing"

	"strongbox/api"
)

// shapes are volumes of a root at the place 0 whose leaves stand in various orders: leaves of one, two and three blocks, the first and the last, all.
func shapes() []volume {
	l := []volume{bare(0, 1, 0)}
	for marks := 1; marks < 8; marks++ {
		for _, leaf := range []int{0, 1, 7, 19} {
			v := bare(0, 8, 99)
			for j := range 3 {
				if marks>>j&1 == 1 {
					v = v.set(3*leaf+j, 1, entry(10*leaf+j))
				}
			}
			l = append(l, v)
		}
	}
	whole, backward, thirds := bare(0, 3, 30), bare(0, 4, 40), bare(0, 5, 50)
	for block := range 60 {
		whole = whole.set(block, 1+block/3, entry(block))
		backward = backward.set(59-block, 1+block/3, entry(block/2))
		if block%7 == 2 {
			thirds = thirds.set(block, 20-block/3, entry(block))
		}
	}
	return append(l, whole, backward, thirds, whole.clear(0, 3, 4, 6, 7, 8, 57, 59))
}

func TestM5GetAndM7TellOfEachShape(t *testing.T) {
	for _, v := range shapes() {
		for _, keep := range []int{0, 1, 64} {
			w := made(t, keep, 30, state{}.with(v))
			for range 2 {
				w.tells(t, state{}.with(v))
				w.p.Begin()
			}
			w.dirty(t)
			w.sees(t, state{}.with(v))
			if len(w.d.Trace()) != 0 {
				t.Fatalf("acts %v", w.d.Trace())
			}
		}
	}
}

func TestM5BlocksThatAVolumeHasNot(t *testing.T) {
	for _, v := range shapes() {
		w := made(t, 3, 30, state{}.with(v))
		for range 2 {
			w.unchanged(t, func() {
				for _, block := range []int{-1, -3, -60, 60, 61, 62, 63, 1 << 32, math.MaxInt, math.MinInt} {
					w.refusesGet(t, 0, block, api.ErrManifestBlock)
					w.grows(t, 0, block, 0, api.ErrManifestBlock)
					w.refusesClear(t, 0, block, api.ErrManifestBlock)
					w.refusesSet(t, 0, block, entry(1), api.ErrManifestBlock)
				}
			})
			w.p.Begin()
		}
	}
}

// An entry of bytes 0 is one: a block that is mapped to it is mapped.
func TestM5EntriesOfNoughts(t *testing.T) {
	zero := api.Entry{Digest: noughts(32), Wrapped: noughts(48)}
	w := made(t, 3, 30, state{}.with(bare(0, 1, 0)))
	v := bare(0, 1, 0)
	w.begin(t)
	for _, block := range []int{0, 4, 8, 57, 58, 59} {
		more := 0
		if v.leaves[block/3] < 0 {
			more = 1
		}
		v = v.set(block, (state{}.with(v)).free(), zero)
		w.sets(t, 0, block, zero, more)
		w.tells(t, state{}.with(v))
		w.sees(t, state{}.with(v))
	}
	w.destroys(t, 0, api.ErrManifestUsed)
	w.clears(t, 0, 58, 0)
	w.clears(t, 0, 57, 0)
	w.clears(t, 0, 59, 1)
	w.refusesClear(t, 0, 59, api.ErrManifestNone)
	w.tells(t, state{}.with(v.clear(57, 58, 59)))
}

// A digest of one and a key of another block may be the same.
func TestM5EntriesThatHaveAPartInCommon(t *testing.T) {
	w := made(t, 3, 30, state{}.with(bare(0, 1, 0)))
	w.begin(t)
	v := bare(0, 1, 0)
	for block, e := range []api.Entry{
		{Digest: entry(1).Digest, Wrapped: entry(2).Wrapped},
		{Digest: entry(1).Digest, Wrapped: entry(3).Wrapped},
		{Digest: entry(2).Digest, Wrapped: entry(2).Wrapped},
		{Digest: entry(1).Digest, Wrapped: entry(2).Wrapped},
		{Digest: strings.Repeat("\xff", 32), Wrapped: strings.Repeat("\xff", 48)},
		{Digest: strings.Repeat("ä", 16), Wrapped: strings.Repeat("ä", 24)},
	} {
		v = v.set(block, 1+block/3, e)
		if _, errno := w.s.Set(0, block, e); errno != api.OK {
			t.Fatalf("Set = %d", errno)
		}
		w.tells(t, state{}.with(v))
		w.sees(t, state{}.with(v))
	}
}

func TestM7GrowsIsWhatSetWouldAnswer(t *testing.T) {
	for _, v := range shapes() {
		for block := range 60 {
			w := made(t, 3, 30, state{}.with(v))
			w.begin(t)
			n, e := w.s.Grows(0, block)
			if e != api.OK {
				t.Fatalf("Grows = %d", e)
			}
			w.sets(t, 0, block, entry(77), n)
			w.grows(t, 0, block, 0, api.OK)
		}
	}
}

// Whether a place is free, or the transaction has room, is not asked.
func TestM7GrowsAsksForNoPlace(t *testing.T) {
	w := made(t, 3, 1, state{}.with(bare(0, 1, 0)))
	w.grows(t, 0, 59, 1, api.OK)
	w.begin(t)
	w.write(t, w.nobodys(16)...)
	w.unchanged(t, func() { w.grows(t, 0, 59, 1, api.OK) })
	w.unchanged(t, func() { w.refusesSet(t, 0, 59, entry(1), api.ErrManifestFull) })
}

func TestM7EachGoesByRisingBlocksAndEndsWithTheLoop(t *testing.T) {
	for _, v := range shapes() {
		w := made(t, 3, 30, state{}.with(v))
		each := w.s.Each(0)
		for n := range len(v.mapped()) + 2 {
			var l []int
			for block, e := range each {
				if e != v.blocks[block] {
					t.Fatalf("Each tells %q of %d, want %q", e, block, v.blocks[block])
				}
				if l = append(l, block); len(l) == n {
					break
				}
			}
			want := v.mapped()
			if n > 0 && n < len(want) {
				want = want[:n]
			}
			if !slices.Equal(l, want) {
				t.Fatalf("Each tells %v, want %v", l, want)
			}
		}
	}
}

// A loop that was left is not gone on with.
func TestM7EachAsksNoMoreBehindALoopThatWasLeft(t *testing.T) {
	w := made(t, 3, 30, state{}.with(shapes()[len(shapes())-4]))
	for stop := range 60 {
		n := 0
		w.s.Each(0)(func(block int, _ api.Entry) bool {
			if n++; block > stop {
				t.Fatalf("Each goes on to %d behind %d", block, stop)
			}
			return block < stop
		})
		if n != stop+1 {
			t.Fatalf("Each tells %d", n)
		}
	}
}

func TestM7EachMayBePulledAndGoneOverTwiceAtOnce(t *testing.T) {
	v := shapes()[len(shapes())-1]
	w := made(t, 1, 30, state{}.with(v))
	each := w.s.Each(0)
	next, stop := iter.Pull2(each)
	defer stop()
	for _, block := range v.mapped() {
		b, e, ok := next()
		if b != block || e != v.blocks[block] || !ok {
			t.Fatalf("next = %d, %q, %v", b, e, ok)
		}
		var l []int
		for b := range each {
			l = append(l, b)
		}
		if !slices.Equal(l, v.mapped()) {
			t.Fatalf("Each tells %v", l)
		}
	}
	if b, e, ok := next(); b != 0 || e != (api.Entry{}) || ok {
		t.Fatalf("next = %d, %q, %v", b, e, ok)
	}
}

func TestM7EachIsReadWhenTheLoopGoesOverIt(t *testing.T) {
	w := made(t, 3, places, sample())
	stats := w.p.Stats()
	one, none, free := w.s.Each(2), w.s.Each(-1), w.s.Each(7)
	if w.p.Stats() != stats {
		t.Fatal("Each reads when it is called")
	}
	blocks := func(each iter.Seq2[int, api.Entry]) []int {
		var l []int
		for block := range each {
			l = append(l, block)
		}
		return l
	}
	look := func(each iter.Seq2[int, api.Entry], want ...int) {
		t.Helper()
		if l := blocks(each); !slices.Equal(l, want) {
			t.Fatalf("Each tells %v, want %v", l, want)
		}
	}
	look(one)
	w.begin(t)
	w.sets(t, 2, 33, entry(1), 1)
	w.sets(t, 2, 32, entry(2), 1)
	look(one, 32, 33)
	look(none)
	look(free)
	w.clears(t, 2, 33, 1)
	look(one, 32)
	w.clears(t, 2, 32, 1)
	// A volume that came to the place behind the call.
	w.creates(t, 6, 6, 7)
	w.sets(t, 7, 59, entry(3), 1)
	look(free, 59)
	w.destroys(t, 2, api.OK)
	look(one)
	w.abort(t)
	look(free)
	w.kill(t)
	w.notice(t)
	look(one)
	look(w.s.Each(0))
}

// What is told in a loop does not hang on what its body does to other volumes, or to the transaction.
func TestM7TheBodyOfALoopMayChangeOtherVolumes(t *testing.T) {
	m := sample()
	w := made(t, 1, 40, m)
	w.begin(t)
	var l []int
	for block, e := range w.s.Each(0) {
		l = append(l, block)
		v := m.of(2)
		more := 0
		if v.leaves[block/3] < 0 {
			more = 1
		}
		m = m.with(v.set(block, m.free(), e))
		w.sets(t, 2, block, e, more)
	}
	if !slices.Equal(l, sample().of(0).mapped()) {
		t.Fatalf("Each tells %v", l)
	}
	w.tells(t, m)
	w.commit(t)
	l = nil
	for block := range w.s.Each(2) {
		if l = append(l, block); block == 2 {
			w.begin(t)
			w.clears(t, 0, 7, 1)
			w.commit(t)
		}
	}
	if !slices.Equal(l, m.of(2).mapped()) {
		t.Fatalf("Each tells %v", l)
	}
}

// Where one leaf cannot be read nothing is told, also not of those ahead of it.
func TestM7EachTellsNothingWhereMappedAnswersAnError(t *testing.T) {
	v := sample().of(0)
	for _, near := range [][]int{{19, 0, 1}, {19, 0, 1, 3}, {19, 0, 6}, {0, 1, 3, 6}, {19, 1, 3, 6}, {19, 0, 1, 3, 6}} {
		w := made(t, len(near), places, sample())
		for _, i := range near {
			if i != 19 {
				i = w.sectorAt(i)
			}
			w.p.Read(i)
		}
		w.kill(t)
		if len(near) == 5 {
			// All is at hand: no disk is asked.
			w.isVolume(t, v)
			continue
		}
		if l, _ := w.told(0); len(l) != 0 {
			t.Fatalf("Each with %v at hand tells %v", near, l)
		}
		w.maps(t, 0, 0, 0, api.ErrDead)
		w.isNone(t, 0, api.ErrDead)
	}
}

// What the transaction has written is told of a dead disk, until death has been told once.
func TestM7WhatWasWrittenIsToldOfADeadDisk(t *testing.T) {
	w := made(t, 0, places, state{})
	w.begin(t)
	w.creates(t, 1, 0, 0)
	w.sets(t, 0, 5, entry(5), 1)
	w.sets(t, 0, 59, entry(59), 1)
	v := bare(0, 1, 0).set(5, 1, entry(5)).set(59, 2, entry(59))
	w.kill(t)
	w.isVolume(t, v)
	w.sets(t, 0, 4, entry(4), 0)
	w.isVolume(t, v.set(4, 1, entry(4)))
	w.clears(t, 0, 59, 1)
	w.notice(t)
	w.isNone(t, 0, api.ErrDead)
	w.refuses(t, 0, api.ErrDead)
	w.refusesCreate(t, 1, 1, api.ErrDead)
}

func TestR2WhatWasHandedOutStays(t *testing.T) {
	w := made(t, 1, places, state{}.with(bare(0, 1, 0)))
	w.begin(t)
	b := []byte(entry(1).Digest)
	w.sets(t, 0, 0, api.Entry{Digest: string(b), Wrapped: entry(1).Wrapped}, 1)
	clear(b)
	e, _ := w.s.Get(0, 0)
	_, l := w.told(0)
	w.sets(t, 0, 0, entry(2), 0)
	w.commit(t)
	if e != entry(1) || !slices.Equal(l, []api.Entry{entry(1)}) {
		t.Fatal("what was handed out has changed")
	}
	w.gets(t, 0, 0, entry(2), api.OK)
}
