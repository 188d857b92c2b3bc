package chunk_test

import (
	"testing"

	"strongbox/api"
)

func Test9_3HoldCountsOnceMore(t *testing.T) {
	for _, count := range counts() {
		for _, i := range edges(count) {
			for _, n := range []int{1, 2, 65533, 65534} {
				w := made(t, 4, count, at(n, edges(count)...)...)
				w.begin(t)
				asked := w.asked()
				w.holds(t, digest(text(i)), api.OK)
				if n := w.asked() - asked; n != 1 {
					t.Fatalf("Hold asks for %d sectors", n)
				}
				w.dirty(t, w.indexAt(i))
				now := with(at(n, edges(count)...), at(n+1, i)...)
				w.sees(t, now...)
				w.tells(t, now...)
			}
		}
	}
}

func Test9_3HoldRefusesMoreThanTheGreatestCount(t *testing.T) {
	for _, count := range counts() {
		for _, i := range edges(count) {
			w := made(t, 4, count, at(65535, i)...)
			w.begin(t)
			for range 2 {
				w.unchanged(t, func() { w.holds(t, digest(text(i)), api.ErrChunkCount) })
				w.dirty(t)
			}
		}
	}
}

func Test9_3HoldAndDropRefuseWhatIsNotThere(t *testing.T) {
	for _, l := range [][]stored{nil, at(1, 0), at(65535, upTo(7)...)} {
		w := made(t, 2, 7, l...)
		w.begin(t)
		for _, d := range append(noDigests(), digest(text(7))) {
			w.unchanged(t, func() { w.refuses(t, d, api.ErrChunkNone) })
		}
		w.dirty(t)
	}
}

func Test9_3HoldAndDropWantATransaction(t *testing.T) {
	w := made(t, 2, 7, with(at(65535, 0), at(1, 6)...)...)
	for range 2 {
		for _, d := range append(noDigests(), digest(text(0)), digest(text(6))) {
			w.unchanged(t, func() { w.refuses(t, d, api.ErrPoolNone) })
		}
		answers(t, "Commit", w.p.Commit(), api.ErrPoolNone)
		w.begin(t)
		w.abort(t)
	}
}

func Test9_4DropCountsOnceLess(t *testing.T) {
	for _, count := range counts() {
		for _, i := range edges(count) {
			for _, n := range []int{2, 3, 65534, 65535} {
				w := made(t, 4, count, at(n, edges(count)...)...)
				w.begin(t)
				asked := w.asked()
				w.drops(t, digest(text(i)), false)
				if n := w.asked() - asked; n != 1 {
					t.Fatalf("Drop asks for %d sectors", n)
				}
				w.dirty(t, w.indexAt(i))
				now := with(at(n, edges(count)...), at(n-1, i)...)
				w.sees(t, now...)
				w.tells(t, now...)
			}
		}
	}
}

func Test9_4DropOfTheLastOne(t *testing.T) {
	for _, count := range counts() {
		for _, i := range edges(count) {
			for _, l := range [][]stored{at(1, i), at(1, upTo(count)...), with(at(2, upTo(count)...), at(1, i)...)} {
				w := made(t, 4, count, l...)
				w.begin(t)
				asked := w.asked()
				w.drops(t, digest(text(i)), true)
				if n := w.asked() - asked; n != 2 {
					t.Fatalf("Drop asks for %d sectors", n)
				}
				// The sector is not written.
				w.dirty(t, w.bitmapAt(i), w.indexAt(i))
				w.has(t, w.sectorAt(i), text(i))
				w.sees(t, without(l, i)...)
				w.tells(t, without(l, i)...)
				w.counts(t, digest(text(i)), 0)
				w.refusesLoad(t, digest(text(i)), api.ErrChunkNone)
				w.unchanged(t, func() { w.refuses(t, digest(text(i)), api.ErrChunkNone) })
			}
		}
	}
}

func Test9_4DropsByThemselvesEmptyAStore(t *testing.T) {
	for _, count := range []int{1, 6, 7, 13, 257} {
		w := made(t, 4, count, at(2, upTo(count)...)...)
		for i := range count {
			w.begin(t)
			w.drops(t, digest(text(i)), false)
			w.drops(t, digest(text(i)), true)
			w.commit(t)
		}
		w.tells(t)
		w.sees(t)
	}
}

// What is at hand of a place that is free is not seen by what comes there.
func Test9_4APlaceThatIsTakenAgainHasTheNewBytes(t *testing.T) {
	for _, keep := range []int{0, 1, 64} {
		w := made(t, keep, 2, at(1, 0, 1)...)
		w.loads(t, digest(text(0)), text(0))
		w.begin(t)
		w.drops(t, digest(text(0)), true)
		w.commit(t)
		w.begin(t)
		w.saves(t, text(9), true)
		w.loads(t, digest(text(9)), text(9))
		w.commit(t)
		w.loads(t, digest(text(9)), text(9))
		w.reopen(t)
		w.tells(t, stored{0, text(9), 1}, stored{1, text(1), 1})
	}
}
