package chunk_test

import (
	"math"
	"testing"

	"strongbox/api"
	"strongbox/chunk"
)

func Test9_1OpenAsksNothing(t *testing.T) {
	for _, trouble := range []func(*parts){
		func(*parts) {},
		func(w *parts) { w.kill(t) },
		func(w *parts) { w.lose(t) },
		func(w *parts) { w.begin(t) },
		func(w *parts) { w.begin(t); w.saves(t, text(50), true); w.lose(t) },
	} {
		for _, first := range []int{0, 19, 24, -1, 128, 1024, math.MaxInt, math.MinInt} {
			w := made(t, 2, 7, at(3, 0, 6)...)
			trouble(w)
			acts, asked, dirty := len(w.d.Trace()), w.asked(), w.p.Dirty()
			if s := chunk.Open(w.p, w.m, w.x, first); s == nil {
				t.Fatal("Open = nil")
			}
			if len(w.d.Trace()) != acts || w.asked() != asked {
				t.Fatalf("Open with %d asks the disk", first)
			}
			w.dirty(t, dirty...)
		}
	}
}

func Test9_1OpenIsTheStoreOfItsParts(t *testing.T) {
	for _, count := range counts() {
		l := at(2, edges(count)...)
		w := made(t, 4, count, l...)
		w.tells(t, l...)
		// Another one of the same parts tells what this one changes.
		other := *w
		other.s = chunk.Open(w.p, w.m, w.x, first(count))
		w.begin(t)
		w.drops(t, l[0].digest(), false)
		w.drops(t, l[0].digest(), true)
		other.tells(t, l[1:]...)
		other.saves(t, text(800), true)
		w.tells(t, with(l[1:], stored{0, text(800), 1})...)
	}
}

func Test9_1StoresOfOtherPartsAreNotDisturbed(t *testing.T) {
	v, w := made(t, 2, 7, at(2, 0)...), made(t, 2, 7, at(2, 0)...)
	v.begin(t)
	v.saves(t, text(1), true)
	v.drops(t, digest(text(0)), false)
	w.tells(t, at(2, 0)...)
	w.refusesSave(t, text(1), api.ErrPoolNone)
	v.lose(t)
	w.begin(t)
	w.saves(t, text(1), true)
	w.tells(t, with(at(2, 0), at(1, 1)...)...)
}

// The sectors are counted from the one that is told, wherever the pages are.
func Test9_1TheDataSectorsStandFromASectorOn(t *testing.T) {
	for _, at := range []int{24, 30, 60, 121} {
		w := made(t, 2, 7)
		w.s = chunk.Open(w.p, w.m, w.x, at)
		w.begin(t)
		for i := range 7 {
			w.saves(t, text(i), true)
			w.has(t, at+i, text(i))
			w.loads(t, digest(text(i)), text(i))
		}
		w.dirty(t, append(from(19, 3), from(at, 7)...)...)
	}
}

// Whoever opens a store on parts that do not belong together gets what they say, and no panic.
func Test9_1PartsThatDoNotBelongTogether(t *testing.T) {
	for _, first := range []int{128, 1024, math.MaxInt, math.MaxInt - 5, -7, math.MinInt, math.MinInt + 3} {
		w := made(t, 2, 7, at(2, 1)...)
		w.s = chunk.Open(w.p, w.m, w.x, first)
		w.refusesLoad(t, digest(text(1)), api.ErrDiskSector)
		w.begin(t)
		w.refusesSave(t, text(1), api.ErrDiskSector)
		w.refusesSave(t, text(50), api.ErrDiskSector)
	}
	// Sectors that are not free.
	for _, first := range []int{0, 1, 17, 18} {
		w := made(t, 2, 7)
		w.s = chunk.Open(w.p, w.m, w.x, first)
		w.begin(t)
		w.refusesSave(t, text(50), api.ErrJournalPlace)
	}
	// A map of more places, of fewer, and one in which the place of a chunk is free.
	few, many := made(t, 2, 1), made(t, 2, 13, at(1, upTo(7)...)...)
	for _, p := range []*parts{few, many} {
		p.begin(t)
	}
	s := chunk.Open(many.p, many.m, few.x, 60)
	if d, is, e := s.Save(text(50)); d != "" || is || e != api.ErrIndexPlace {
		t.Fatalf("Save = %x, %v, %d", d, is, e)
	}
	s = chunk.Open(many.p, few.m, many.x, 60)
	if is, e := s.Drop(digest(text(0))); is || e != api.ErrBitmapFree {
		t.Fatalf("Drop = %v, %d", is, e)
	}
	if is, e := s.Drop(digest(text(6))); is || e != api.ErrBitmapPlace {
		t.Fatalf("Drop = %v, %d", is, e)
	}
	// Parts of another pool, which has no transaction.
	few.abort(t)
	if is, e := s.Drop(digest(text(5))); is || e != api.ErrBitmapPlace {
		t.Fatalf("Drop = %v, %d", is, e)
	}
	s = chunk.Open(many.p, few.m, few.x, 60)
	if d, is, e := s.Save(text(50)); d != "" || is || e != api.ErrPoolNone {
		t.Fatalf("Save = %x, %v, %d", d, is, e)
	}
}

func Test9_1PagesThatOthersHaveSpoiled(t *testing.T) {
	w := made(t, 2, 7, at(1, 0, 6)...)
	w.begin(t)
	w.write(t, 19)
	w.refusesSave(t, text(50), api.ErrBitmapForm)
	w.dirty(t, 19)
	w.write(t, 20)
	w.holds(t, digest(text(0)), api.ErrIndexForm)
	w.refusesDrop(t, digest(text(0)), api.ErrIndexForm)
	w.refusesSave(t, text(0), api.ErrIndexForm)
	w.dirty(t, 19, 20)
	w.refusesDrop(t, digest(text(6)), api.ErrBitmapForm)
}

func TestR1AStoreWithoutAPart(t *testing.T) {
	w := made(t, 2, 7, at(2, 0)...)
	w.begin(t)
	for _, s := range []*chunk.Store{
		chunk.Open(nil, nil, nil, 0),
		chunk.Open(nil, w.m, w.x, 24),
		chunk.Open(w.p, nil, w.x, 24),
		chunk.Open(w.p, w.m, nil, 24),
		{},
	} {
		v := *w
		v.s = s
		for _, d := range []string{digest(text(0)), "", "x"} {
			v.refuses(t, d, api.ErrPoolNone)
			v.refusesLoad(t, d, api.ErrChunkNone)
			v.counts(t, d, 0)
		}
		v.refusesSave(t, text(0), api.ErrPoolNone)
		v.refusesSave(t, "", api.ErrChunkSize)
		v.knows(t)
	}
	w.dirty(t)
}
