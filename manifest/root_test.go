package manifest_test

import (
	"math"
	"testing"

	"strongbox/api"
)

// strangers are roots that are no place of a sample's map.
func strangers() []int {
	return []int{-1, -2, -places, math.MinInt, math.MinInt + 1, places, places + 1, 256, 1024, 65536, 1 << 32, 1<<32 + 2, 1 << 62, math.MaxInt}
}

// noRoots are sectors that are no root pages.
func noRoots(t *testing.T) []string {
	t.Helper()
	right := bare(2, 1, 0).rootPage(t)
	l := []string{text(0), noughts(256), sample().of(0).leafPage(t, 0), page(t, 7, 100, noughts(40)), page(t, 3, 0, noughts(32))}
	for _, kind := range []int{0, 1, 2, 3, 4, 5, 7, 8, 38, 134, 255} {
		l = append(l, page(t, kind, 100, noughts(40)))
	}
	for _, n := range []int{0, 1, 20, 32, 38, 39, 41, 42, 80, 241, 244} {
		l = append(l, page(t, 6, 100, noughts(n)))
	}
	for i := range 256 {
		b := []byte(right)
		b[i] ^= 1 << (i % 8)
		l = append(l, string(b))
	}
	return l
}

// refuses holds all calls to the error that a root gets, and to nothing being changed by them.
func (w *parts) refuses(t *testing.T, root int, want api.Errno) {
	t.Helper()
	w.isNone(t, root, want)
	for _, block := range []int{0, 2, 3, 59} {
		w.refusesSet(t, root, block, entry(1), want)
		w.refusesClear(t, root, block, want)
	}
	w.destroys(t, root, want)
}

// firstErrors holds all calls with arguments that are wrong to these errors, whatever the root is.
func (w *parts) firstErrors(t *testing.T, root int) {
	t.Helper()
	for _, block := range []int{-1, 60, 61, -60, math.MaxInt, math.MinInt} {
		w.refusesGet(t, root, block, api.ErrManifestBlock)
		w.grows(t, root, block, 0, api.ErrManifestBlock)
		w.refusesClear(t, root, block, api.ErrManifestBlock)
		w.refusesSet(t, root, block, entry(1), api.ErrManifestBlock)
		w.refusesSet(t, root, block, api.Entry{}, api.ErrManifestBlock)
	}
	for _, e := range wrongEntries() {
		for _, block := range []int{0, 7, 59} {
			w.refusesSet(t, root, block, e, api.ErrManifestEntry)
		}
	}
}

// wrongEntries are some that no block may be mapped to.
func wrongEntries() []api.Entry {
	s := text(5)
	var l []api.Entry
	for _, n := range []int{0, 1, 31, 32, 33, 48, 80} {
		for _, m := range []int{0, 1, 32, 47, 48, 49, 80} {
			if n != 32 || m != 48 {
				l = append(l, api.Entry{Digest: s[:n], Wrapped: s[:m]})
			}
		}
	}
	return l
}

func TestM3RootsThatAreNoPlace(t *testing.T) {
	for _, root := range strangers() {
		w := made(t, 2, places, sample())
		w.unchanged(t, func() {
			w.isNone(t, root, api.ErrManifestForm)
			w.firstErrors(t, root)
			w.refusesSet(t, root, 0, entry(1), api.ErrPoolNone)
			w.refusesClear(t, root, 0, api.ErrPoolNone)
			w.destroys(t, root, api.ErrPoolNone)
		})
		w.begin(t)
		w.unchanged(t, func() { w.refuses(t, root, api.ErrManifestForm) })
		w.write(t, w.nobodys(16)...)
		w.unchanged(t, func() { w.refuses(t, root, api.ErrManifestForm) })
		// Whether the disk is dead or not.
		w.kill(t)
		w.refuses(t, root, api.ErrManifestForm)
		w.firstErrors(t, root)
		w.notice(t)
		w.refuses(t, root, api.ErrManifestForm)
		w.firstErrors(t, root)
		w.abort(t)
		w.isNone(t, root, api.ErrManifestForm)
		w.destroys(t, root, api.ErrPoolNone)
	}
}

func TestM3RootsAtTheEdgesOfTheMap(t *testing.T) {
	for _, count := range counts() {
		for _, i := range edges(count) {
			w := made(t, 2, count, state{}.with(bare(i, 1, 0)))
			w.begin(t)
			w.isVolume(t, bare(i, 1, 0))
			for _, root := range []int{-1, i - 1, i + 1, count, count + 1} {
				w.unchanged(t, func() { w.refuses(t, root, api.ErrManifestForm) })
			}
		}
	}
}

func TestM3SectorsThatAreNoRootPage(t *testing.T) {
	for _, s := range noRoots(t) {
		l := sample().image(t, places)
		w := empty(t, places)
		l[w.sectorAt(2)] = s
		w = opened(t, loaded(t, l), 2, places)
		w.isNone(t, 2, api.ErrManifestForm)
		w.firstErrors(t, 2)
		w.destroys(t, 2, api.ErrPoolNone)
		w.begin(t)
		w.unchanged(t, func() { w.refuses(t, 2, api.ErrManifestForm) })
		w.isVolume(t, sample().of(0))
		w.isVolume(t, sample().of(5))
		// Nothing at hand tells that the disk is dead ahead of that the page is wrong.
		w = opened(t, loaded(t, l), 0, places)
		w.begin(t)
		w.kill(t)
		w.refuses(t, 2, api.ErrDead)
		w.firstErrors(t, 2)
		// It is told by what the transaction has written.
		w = opened(t, loaded(t, sample().image(t, places)), 1, places)
		w.begin(t)
		answers(t, "Write", w.p.Write(w.sectorAt(2), s), api.OK)
		w.unchanged(t, func() { w.refuses(t, 2, api.ErrManifestForm) })
		w.abort(t)
		w.tells(t, sample())
	}
}

// A root page at a place that is free is none, also where it was one just now.
func TestM3PlacesThatAreNotTaken(t *testing.T) {
	l := sample().image(t, places)
	w := empty(t, places)
	l[w.sectorAt(7)] = bare(7, 1, 1).rootPage(t)
	l[w.sectorAt(9)] = sample().of(0).rootPage(t)
	w = opened(t, loaded(t, l), 2, places)
	w.begin(t)
	for _, root := range []int{7, 9, 10, 11} {
		w.unchanged(t, func() { w.refuses(t, root, api.ErrManifestForm) })
	}
	// Whoever takes the place has a volume there.
	if i, e := w.m.Alloc(); i != 7 || e != api.OK {
		t.Fatalf("Alloc = %d, %d", i, e)
	}
	w.isVolume(t, bare(7, 1, 1))
	answers(t, "Free", w.m.Free(2), api.OK)
	w.unchanged(t, func() { w.refuses(t, 2, api.ErrManifestForm) })
}

// The places of leaves, and those that others have taken, are no roots.
func TestM3LeavesAndOthersAreNoRoots(t *testing.T) {
	w := made(t, 4, places, sample())
	w.begin(t)
	for _, root := range []int{1, 3, 4, 6, 8} {
		w.unchanged(t, func() { w.refuses(t, root, api.ErrManifestForm) })
	}
}

// Of a disk that is dead nothing is told of a place of the map, but what stands ahead of that.
func TestM3AnyRootOfADeadDisk(t *testing.T) {
	for _, isLost := range []bool{false, true} {
		for _, isOpen := range []bool{false, true} {
			w := made(t, 0, places, sample())
			want := api.ErrPoolNone
			if isOpen {
				w.begin(t)
				want = api.ErrDead
			}
			if isLost {
				w.lose(t)
			} else {
				w.kill(t)
			}
			for root := range places {
				w.firstErrors(t, root)
				w.isNone(t, root, api.ErrDead)
				w.refusesSet(t, root, 0, entry(1), want)
				w.refusesClear(t, root, 7, want)
				w.destroys(t, root, want)
			}
			for _, root := range strangers() {
				w.isNone(t, root, api.ErrManifestForm)
			}
			w.refusesCreate(t, 1, 0, want)
			// Behind a Crash too, until all is opened anew.
			answers(t, "Crash", w.d.Crash(nil), api.OK)
			w.isNone(t, 0, api.ErrDead)
			opened(t, w.d, 2, places).tells(t, sample())
		}
	}
}

// The map's page is at hand and says that a place is free; its sector is not, and that is told first.
func TestM3ADeadDiskIsToldAheadOfAFreePlace(t *testing.T) {
	w := made(t, 1, places, sample())
	w.begin(t)
	w.isTaken(t, sample().taken())
	w.kill(t)
	w.refuses(t, 7, api.ErrDead)
	for root := range places {
		w.refuses(t, root, api.ErrDead)
	}
	// And the other way round: the sector is at hand and is no root page, but the map's is not.
	w = made(t, 1, places, sample())
	w.begin(t)
	w.has(t, w.sectorAt(1), sample().of(0).leafPage(t, 0))
	w.kill(t)
	w.refuses(t, 1, api.ErrDead)
}

// A root page is one whatever its number is: the kind and the length are asked alone.
func TestM3TheNumberOfARootPageIsNotAsked(t *testing.T) {
	for _, number := range []int{0, 1, 99, 900, 65536, 134217727} {
		w := made(t, 4, places, sample())
		w.begin(t)
		answers(t, "Write", w.p.Write(w.sectorAt(2), page(t, 6, number, noughts(40))), api.OK)
		v := bare(2, 0, number)
		w.isVolume(t, v)
		w.sets(t, 2, 59, entry(1), 1)
		v = v.set(59, 7, entry(1))
		w.isVolume(t, v)
		w.has(t, w.sectorAt(2), v.rootPage(t))
		w.has(t, w.sectorAt(7), page(t, 7, 32*number+19, "\x04"+noughts(160)+entry(1).Digest+entry(1).Wrapped))
		w.clears(t, 2, 59, 1)
		w.destroys(t, 2, api.OK)
	}
	// Of these no leaf can be numbered.
	for _, number := range []int{134217728, 4294967295} {
		w := made(t, 4, places, sample())
		w.begin(t)
		answers(t, "Write", w.p.Write(w.sectorAt(2), page(t, 6, number, noughts(40))), api.OK)
		w.isVolume(t, bare(2, 0, number))
		w.unchanged(t, func() { w.refusesSet(t, 2, 59, entry(1), api.ErrManifestForm) })
		w.destroys(t, 2, api.OK)
	}
}
