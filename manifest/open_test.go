package manifest_test

import (
	"math"
	"testing"

	"strongbox/api"
	"strongbox/manifest"
)

func TestM1OpenAsksNothing(t *testing.T) {
	for _, trouble := range []func(*parts){
		func(*parts) {},
		func(w *parts) { w.kill(t) },
		func(w *parts) { w.lose(t) },
		func(w *parts) { w.begin(t) },
		func(w *parts) { w.begin(t); w.sets(t, 0, 1, entry(1), 0); w.lose(t) },
	} {
		for _, first := range []int{0, 19, 23, -1, 128, 1024, math.MaxInt, math.MinInt} {
			w := made(t, 2, places, sample())
			trouble(w)
			acts, stats, dirty := len(w.d.Trace()), w.p.Stats(), w.p.Dirty()
			if s := manifest.Open(w.p, w.m, first); s == nil {
				t.Fatal("Open = nil")
			}
			if len(w.d.Trace()) != acts || w.p.Stats() != stats {
				t.Fatalf("Open with %d asks the disk", first)
			}
			w.dirty(t, dirty...)
		}
	}
}

// Two stores of the same parts tell the same at all times, whichever of them changes something.
func TestM1AStoreKeepsNothing(t *testing.T) {
	v := made(t, 4, places, sample())
	w := *v
	w.s = manifest.Open(v.p, v.m, first(places))
	m := sample()
	w.tells(t, m)
	v.begin(t)
	v.creates(t, 3, 33, 7)
	m = m.with(bare(7, 3, 33))
	w.tells(t, m)
	w.sets(t, 7, 30, entry(1), 1)
	m = m.with(m.of(7).set(30, 9, entry(1)))
	v.tells(t, m)
	v.clears(t, 5, 59, 1)
	w.destroys(t, 5, api.OK)
	m = m.without(5)
	v.tells(t, m)
	w.tells(t, m)
	v.abort(t)
	w.tells(t, sample())
	// What is written past the stores is seen by both.
	w.begin(t)
	m = sample().with(bare(0, 1, 5))
	answers(t, "Write", w.p.Write(w.sectorAt(0), bare(0, 1, 5).rootPage(t)), api.OK)
	v.isVolume(t, m.of(0))
	w.isVolume(t, m.of(0))
}

func TestM1StoresOfOtherPartsAreNotDisturbed(t *testing.T) {
	v, w := made(t, 2, places, sample()), made(t, 2, places, sample())
	v.begin(t)
	v.clears(t, 0, 7, 1)
	v.creates(t, 2, 2, 3)
	w.tells(t, sample())
	w.refusesCreate(t, 2, 2, api.ErrPoolNone)
	v.lose(t)
	w.begin(t)
	w.creates(t, 2, 2, 7)
	w.tells(t, sample().with(bare(7, 2, 2)))
}

// The sectors are counted from the one that is told, wherever the map's pages are.
func TestM1TheDataSectorsStandFromASectorOn(t *testing.T) {
	for _, at := range []int{20, 23, 30, 60, 116} {
		w := empty(t, places)
		w.s = manifest.Open(w.p, w.m, at)
		w.begin(t)
		w.creates(t, 4, 44, 0)
		v := bare(0, 4, 44)
		for l := range places - 1 {
			w.sets(t, 0, 3*l+1, entry(l), 1)
			v = v.set(3*l+1, l+1, entry(l))
			w.has(t, at+l+1, v.leafPage(t, l))
		}
		w.has(t, at, v.rootPage(t))
		w.isVolume(t, v)
		w.dirty(t, append(from(at, places), 19)...)
	}
}

// Whoever opens a store on parts that do not belong together gets what they say, and no panic.
func TestR1PartsThatDoNotBelongTogether(t *testing.T) {
	for _, first := range []int{128, 1024, math.MaxInt, math.MaxInt - 5, -places, math.MinInt, math.MinInt + 3} {
		w := made(t, 2, places, sample())
		w.s = manifest.Open(w.p, w.m, first)
		w.begin(t)
		for _, root := range []int{0, 2, 5, 7} {
			w.unchanged(t, func() {
				w.isNone(t, root, api.ErrManifestForm)
				w.refusesSet(t, root, 0, entry(1), api.ErrManifestForm)
				w.refusesClear(t, root, 0, api.ErrManifestForm)
				w.destroys(t, root, api.ErrManifestForm)
			})
		}
		w.refusesCreate(t, 1, 1, api.ErrDiskSector)
	}
	// Sectors that are not free.
	for _, first := range []int{0, 1, 11} {
		w := made(t, 2, places, sample())
		w.s = manifest.Open(w.p, w.m, first)
		w.begin(t)
		w.refusesCreate(t, 1, 1, api.ErrJournalPlace)
	}
	// A map of another pool, which has no transaction.
	v, w := made(t, 2, places, sample()), made(t, 2, places, sample())
	w.begin(t)
	w.s = manifest.Open(w.p, v.m, first(places))
	w.isVolume(t, sample().of(0))
	w.refusesCreate(t, 1, 1, api.ErrPoolNone)
	w.refusesSet(t, 0, 30, entry(1), api.ErrPoolNone)
	w.refusesClear(t, 0, 7, api.ErrPoolNone)
	w.destroys(t, 2, api.ErrPoolNone)
	w.dirty(t)
	// One of fewer places: the others' roots are none, and their leaves are not given back.
	few := made(t, 2, 1, state{others: []int{0}})
	few.begin(t)
	w.s = manifest.Open(w.p, few.m, first(places))
	w.isNone(t, 2, api.ErrManifestForm)
	w.refusesClear(t, 0, 7, api.ErrManifestForm)
	w.refusesSet(t, 0, 30, entry(1), api.ErrManifestFull)
}

// Pages that others have spoilt behind Open: nobody panics, and nothing is changed.
func TestR5SpoiltPagesBelow(t *testing.T) {
	for _, spoilt := range []string{text(0), noughts(256), page(t, 7, 32*105+1, noughts(241)), page(t, 7, 32*105, noughts(240)), page(t, 6, 32*105, noughts(40)), page(t, 4, 32*105, noughts(241))} {
		w := made(t, 4, places, sample())
		w.begin(t)
		answers(t, "Write", w.p.Write(w.sectorAt(1), spoilt), api.OK)
		w.unchanged(t, func() {
			for _, block := range []int{0, 1, 2} {
				w.refusesGet(t, 0, block, api.ErrManifestForm)
				w.refusesSet(t, 0, block, entry(1), api.ErrManifestForm)
				w.refusesClear(t, 0, block, api.ErrManifestForm)
			}
			w.maps(t, 0, 0, 0, api.ErrManifestForm)
			if l, _ := w.told(0); len(l) != 0 {
				t.Fatalf("Each tells %v", l)
			}
			w.gets(t, 0, 7, entry(107), api.OK)
			w.isVolume(t, sample().of(5))
		})
	}
	w := made(t, 4, places, sample())
	w.begin(t)
	w.write(t, 19)
	w.unchanged(t, func() {
		w.isNone(t, 0, api.ErrManifestForm)
		w.refusesCreate(t, 1, 1, api.ErrManifestForm)
		w.destroys(t, 2, api.ErrManifestForm)
	})
}

// Places of leaves that no map has, and such as are a root's, the volume's own among them, or others'.
func TestR5ARootThatOthersHaveWritten(t *testing.T) {
	for _, place := range []int{0, 2, 4, 8, 11, 12, 1000, 65534} {
		w := made(t, 4, places, sample())
		w.begin(t)
		answers(t, "Write", w.p.Write(w.sectorAt(2), bare(2, 1, 0).set(30, place, entry(1)).rootPage(t)), api.OK)
		w.unchanged(t, func() {
			w.refusesGet(t, 2, 30, api.ErrManifestForm)
			w.refusesGet(t, 2, 33, api.ErrManifestNone)
			w.refusesSet(t, 2, 31, entry(1), api.ErrManifestForm)
			w.refusesClear(t, 2, 31, api.ErrManifestForm)
			w.maps(t, 2, 0, 0, api.ErrManifestForm)
			w.destroys(t, 2, api.ErrManifestUsed)
		})
	}
	// A leaf whose place is not taken is not given back.
	w := made(t, 4, places, sample())
	w.begin(t)
	answers(t, "Free", w.m.Free(3), api.OK)
	w.unchanged(t, func() { w.refusesClear(t, 0, 7, api.ErrManifestForm) })
}

func TestR1AStoreWithoutAPart(t *testing.T) {
	w := made(t, 2, places, sample())
	w.begin(t)
	for _, s := range []*manifest.Store{manifest.Open(nil, nil, 0), manifest.Open(nil, w.m, 23), manifest.Open(w.p, nil, 23), {}} {
		v := *w
		v.s = s
		for _, root := range []int{-1, 0, 2, 7, places} {
			v.isNone(t, root, api.ErrManifestForm)
			v.refusesGet(t, root, 60, api.ErrManifestBlock)
			v.refusesSet(t, root, 60, entry(0), api.ErrManifestBlock)
			v.refusesSet(t, root, 0, api.Entry{}, api.ErrManifestEntry)
			v.refusesSet(t, root, 0, entry(0), api.ErrPoolNone)
			v.refusesClear(t, root, 0, api.ErrPoolNone)
			v.destroys(t, root, api.ErrPoolNone)
		}
		v.refusesCreate(t, 1, 1, api.ErrPoolNone)
		v.refusesCreate(t, 0, 1, api.ErrArg)
	}
	w.dirty(t)
}
