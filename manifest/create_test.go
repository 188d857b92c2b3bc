package manifest_test

import (
	"math"
	"slices"
	"testing"

	"strongbox/api"
)

// counts are edges of how many places a store may have: those of a page of the map, and one more.
func counts() []int { return []int{1, 2, 3, 12, 255, 256, 257, 513} }

// edges are places of one of so many.
func edges(count int) []int {
	l := []int{0, 1, 2, 255, 256, 512, count - 1}
	slices.Sort(l)
	return slices.DeleteFunc(slices.Compact(l), func(i int) bool { return i >= count })
}

// wrongNumbers are pairs of a tenant and a volume that may not be.
func wrongNumbers() [][2]int {
	var l [][2]int
	for _, n := range []int{0, -1, 9, 10, 256, math.MaxInt, math.MinInt} {
		l = append(l, [2]int{n, 0}, [2]int{n, 99}, [2]int{n, -1}, [2]int{n, 100})
	}
	for _, n := range []int{-1, -100, 100, 101, 1 << 32, math.MaxInt, math.MinInt} {
		l = append(l, [2]int{1, n}, [2]int{8, n}, [2]int{9, n})
	}
	return l
}

func TestM2TheExamples(t *testing.T) {
	w := empty(t, 80)
	w.begin(t)
	w.creates(t, 1, 5, 0)
	w.grows(t, 0, 7, 1, api.OK)
	w.sets(t, 0, 7, entry(1), 1)
	w.sets(t, 0, 8, entry(2), 0)
	w.sets(t, 0, 7, entry(2), 0)
	w.maps(t, 0, 2, 2, api.OK)
	w.clears(t, 0, 7, 0)
	w.clears(t, 0, 8, 1)
	w.maps(t, 0, 0, 1, api.OK)
	w.destroys(t, 0, api.OK)
	w.refusesGet(t, 0, 8, api.ErrManifestForm)
	w.refusesSet(t, 0, 60, entry(1), api.ErrManifestBlock)
}

func TestM2CreateOfEachTenantAndVolume(t *testing.T) {
	for _, tenant := range []int{1, 2, 7, 8} {
		for _, n := range []int{0, 1, 9, 50, 98, 99} {
			w := made(t, 4, places, sample())
			w.begin(t)
			w.creates(t, tenant, n, 7)
			w.dirty(t, 19, w.sectorAt(7))
			m := sample().with(bare(7, tenant, n))
			w.tells(t, m)
			w.sees(t, m)
			w.has(t, w.sectorAt(7), page(t, 6, 100*tenant+n, noughts(40)))
			w.commit(t)
			w.tells(t, m)
			w.sees(t, m)
		}
	}
}

func TestM2CreateRefusesNumbersThatMayNotBe(t *testing.T) {
	full := state{others: upTo(places)}
	for _, m := range []state{{}, sample(), full} {
		w := made(t, 2, places, m)
		for range 2 {
			for _, n := range wrongNumbers() {
				w.unchanged(t, func() { w.refusesCreate(t, n[0], n[1], api.ErrArg) })
			}
			w.p.Begin()
		}
		w.write(t, w.nobodys(16)...)
		for _, n := range wrongNumbers() {
			w.unchanged(t, func() { w.refusesCreate(t, n[0], n[1], api.ErrArg) })
		}
		w.lose(t)
		for _, n := range wrongNumbers() {
			w.refusesCreate(t, n[0], n[1], api.ErrArg)
		}
	}
}

func TestM2CreateTakesTheLeastFreePlace(t *testing.T) {
	for _, count := range counts() {
		for _, i := range edges(count) {
			for _, others := range [][]int{upTo(i), slices.Delete(upTo(count), i, i+1)} {
				w := made(t, 4, count, state{others: others})
				w.begin(t)
				w.creates(t, 8, 99, i)
				w.dirty(t, w.bitmapAt(i), w.sectorAt(i))
				m := state{others: others}.with(bare(i, 8, 99))
				w.tells(t, m)
				w.sees(t, m)
			}
		}
	}
}

func TestM2CreateWhereNoPlaceIsFree(t *testing.T) {
	for _, count := range counts() {
		w := made(t, 4, count, state{others: upTo(count)})
		w.begin(t)
		for range 2 {
			w.unchanged(t, func() { w.refusesCreate(t, 1, 0, api.ErrManifestFull) })
		}
		// A full map is told ahead of a full transaction.
		w.write(t, w.nobodys(16)...)
		w.unchanged(t, func() { w.refusesCreate(t, 1, 0, api.ErrManifestFull) })
		w.abort(t)
		w.begin(t)
		// One is free, and then none is again.
		i := count - 1
		answers(t, "Free", w.m.Free(i), api.OK)
		w.creates(t, 1, 0, i)
		w.unchanged(t, func() { w.refusesCreate(t, 1, 1, api.ErrManifestFull) })
		w.destroys(t, i, api.OK)
		w.creates(t, 1, 1, i)
		w.tells(t, state{others: upTo(i)}.with(bare(i, 1, 1)))
	}
}

func TestM2CreateWantsATransaction(t *testing.T) {
	for _, m := range []state{{}, sample(), {others: upTo(places)}} {
		w := made(t, 2, places, m)
		for range 2 {
			w.unchanged(t, func() { w.refusesCreate(t, 1, 0, api.ErrPoolNone) })
			// None is open behind it either.
			answers(t, "Commit", w.p.Commit(), api.ErrPoolNone)
			w.begin(t)
			w.abort(t)
		}
		w.lose(t)
		w.refusesCreate(t, 1, 0, api.ErrPoolNone)
	}
}

func TestM2CreateDoesNotAskForOthersOfThatNumber(t *testing.T) {
	w := made(t, 4, places, sample())
	w.begin(t)
	m := sample()
	for _, root := range []int{7, 9, 10} {
		w.creates(t, 1, 5, root)
		m = m.with(bare(root, 1, 5))
		w.tells(t, m)
	}
	w.sets(t, 9, 0, entry(1), 1)
	m = m.with(m.of(9).set(0, 11, entry(1)))
	w.tells(t, m)
	w.sees(t, m)
}

// Whatever stood in the sector, a new volume is bare.
func TestM2CreateLooksNotAtWhatStoodThere(t *testing.T) {
	old := sample().of(0)
	for _, s := range []string{old.rootPage(t), old.leafPage(t, 0), noughts(256), text(4)} {
		w := made(t, 4, places, sample())
		w.begin(t)
		answers(t, "Write", w.p.Write(w.sectorAt(7), s), api.OK)
		w.creates(t, 1, 5, 7)
		w.tells(t, sample().with(bare(7, 1, 5)))
	}
}

func TestM4DestroyFreesThePlace(t *testing.T) {
	for _, count := range counts() {
		for _, i := range edges(count) {
			m := state{others: slices.Delete(upTo(count), i, i+1)}
			w := made(t, 4, count, m.with(bare(i, 8, 99)))
			w.begin(t)
			w.destroys(t, i, api.OK)
			w.dirty(t, w.bitmapAt(i))
			w.tells(t, m)
			w.sees(t, m)
			// Its sector is let be, and is no volume all the same.
			w.has(t, w.sectorAt(i), bare(i, 8, 99).rootPage(t))
			w.unchanged(t, func() { w.destroys(t, i, api.ErrManifestForm) })
			w.commit(t)
			w.tells(t, m)
			w.begin(t)
			w.unchanged(t, func() { w.destroys(t, i, api.ErrManifestForm) })
		}
	}
}

func TestM4DestroyRefusesAVolumeInUse(t *testing.T) {
	for block := range 60 {
		m := sample().with(bare(2, 1, 0).set(block, 9, entry(1)))
		w := made(t, 4, places, m)
		w.begin(t)
		w.unchanged(t, func() { w.destroys(t, 2, api.ErrManifestUsed) })
		w.write(t, w.nobodys(16)...)
		w.unchanged(t, func() { w.destroys(t, 2, api.ErrManifestUsed) })
		w.abort(t)
		w.begin(t)
		w.clears(t, 2, block, 1)
		w.destroys(t, 2, api.OK)
		w.tells(t, sample().without(2))
	}
}

func TestM4DestroyWantsATransaction(t *testing.T) {
	w := made(t, 2, places, sample())
	for _, root := range []int{0, 2, 5, 1, 7, -1, places, math.MaxInt, math.MinInt} {
		w.unchanged(t, func() { w.destroys(t, root, api.ErrPoolNone) })
	}
	answers(t, "Commit", w.p.Commit(), api.ErrPoolNone)
	w.lose(t)
	for _, root := range []int{0, 2, 5, 1, 7, -1, places} {
		w.destroys(t, root, api.ErrPoolNone)
	}
}

// A place goes round: it is a root, is free, is a leaf, is free, and is a root again.
func TestM4APlaceIsUsedAgain(t *testing.T) {
	w := made(t, 4, 3, state{}.with(bare(0, 1, 1)))
	w.begin(t)
	for range 3 {
		w.creates(t, 2, 2, 1)
		w.destroys(t, 1, api.OK)
		w.sets(t, 0, 6, entry(6), 1)
		w.isNone(t, 1, api.ErrManifestForm)
		w.unchanged(t, func() { w.destroys(t, 1, api.ErrManifestForm) })
		w.creates(t, 2, 3, 2)
		w.clears(t, 0, 6, 1)
		w.sets(t, 2, 59, entry(7), 1)
		w.tells(t, state{}.with(bare(0, 1, 1), bare(2, 2, 3).set(59, 1, entry(7))))
		w.clears(t, 2, 59, 1)
		w.destroys(t, 2, api.OK)
		w.tells(t, state{}.with(bare(0, 1, 1)))
	}
}
