package chunk_test

import (
	"slices"
	"strings"
	"testing"

	"strongbox/api"
)

func Test9_2TheExamples(t *testing.T) {
	a, b, c := strings.Repeat("a", 256), strings.Repeat("b", 256), strings.Repeat("c", 256)
	w := made(t, 4, 2)
	w.begin(t)
	w.saves(t, a, true)
	w.saves(t, a, false)
	w.counts(t, digest(a), 2)
	w.saves(t, b, true)
	w.refusesSave(t, c, api.ErrChunkFull)
	w.abort(t)
	w.reload(t)
	w.tells(t)
	w.begin(t)
	w.saves(t, a, true)
	w.saves(t, a, false)
	w.saves(t, b, true)
	w.refusesSave(t, c, api.ErrChunkFull)
	w.commit(t)
	w.begin(t)
	w.drops(t, digest(a), false)
	w.drops(t, digest(a), true)
	w.refusesLoad(t, digest(a), api.ErrChunkNone)
	w.saves(t, c, true)
	w.tells(t, stored{0, c, 1}, stored{1, b, 1})
	w.holds(t, "x", api.ErrChunkNone)
}

func Test9_2ANewChunkTakesTheLeastFreePlace(t *testing.T) {
	for _, count := range counts() {
		for _, i := range edges(count) {
			for _, l := range [][]stored{at(2, upTo(i)...), without(at(2, upTo(count)...), i)} {
				w := made(t, 4, count, l...)
				w.begin(t)
				asked := w.asked()
				w.saves(t, text(i), true)
				// The bitmap's pages up to that of the place, and the index's page.
				if n := w.asked() - asked; n != i/256+2 {
					t.Fatalf("a new chunk at %d asks for %d sectors", i, n)
				}
				w.dirty(t, w.bitmapAt(i), w.indexAt(i), w.sectorAt(i))
				now := with(l, at(1, i)...)
				w.sees(t, now...)
				w.tells(t, now...)
			}
		}
	}
}

func Test9_2AChunkThatIsThereIsCountedOnceMore(t *testing.T) {
	for _, count := range counts() {
		for _, i := range edges(count) {
			for _, l := range [][]stored{at(1, i), at(1, upTo(count)...), at(2, upTo(count)...), at(65534, i)} {
				w := made(t, 4, count, l...)
				w.begin(t)
				asked := w.asked()
				w.saves(t, text(i), false)
				if n := w.asked() - asked; n != 2 {
					t.Fatalf("a chunk that is there asks for %d sectors", n)
				}
				w.dirty(t, w.indexAt(i))
				now := with(l, at(l[0].count+1, i)...)
				w.sees(t, now...)
				w.tells(t, now...)
			}
		}
	}
}

func Test9_2SaveRefusesWhatIsNoChunk(t *testing.T) {
	for _, keep := range []int{0, 64} {
		w := made(t, keep, 7, at(2, 0)...)
		for range 2 {
			for _, n := range []int{0, 1, 31, 32, 255, 257, 512, 4096} {
				w.unchanged(t, func() { w.refusesSave(t, strings.Repeat(text(0), 16)[:n], api.ErrChunkSize) })
			}
			w.p.Begin()
		}
		w.saves(t, strings.Repeat(text(0), 2)[:256], false)
	}
}

func Test9_2SaveWantsATransaction(t *testing.T) {
	full := made(t, 2, 7, at(65535, upTo(7)...)...)
	empty := made(t, 2, 7)
	for range 2 {
		for _, w := range []*parts{full, empty} {
			for _, n := range []int{0, 6, 50} {
				w.unchanged(t, func() { w.refusesSave(t, text(n), api.ErrPoolNone) })
			}
			// None is open behind it either.
			answers(t, "Commit", w.p.Commit(), api.ErrPoolNone)
			w.begin(t)
			w.abort(t)
		}
	}
}

func Test9_2SaveRefusesMoreThanTheStoreHasPlacesFor(t *testing.T) {
	for _, count := range counts() {
		w := made(t, 4, count, at(1, upTo(count)...)...)
		w.begin(t)
		for range 2 {
			w.unchanged(t, func() { w.refusesSave(t, text(count), api.ErrChunkFull) })
			w.dirty(t)
		}
		// Those that are there can be saved.
		for _, i := range edges(count) {
			w.saves(t, text(i), false)
		}
	}
}

func Test9_2PlacesThatBecomeFreeAgain(t *testing.T) {
	for _, count := range counts() {
		for _, i := range edges(count) {
			l := at(1, upTo(count)...)
			w := made(t, 4, count, l...)
			w.begin(t)
			w.drops(t, digest(text(i)), true)
			w.tells(t, without(l, i)...)
			w.saves(t, text(count), true)
			w.tells(t, with(l, stored{i, text(count), 1})...)
			w.refusesSave(t, text(i), api.ErrChunkFull)
			w.drops(t, digest(text(count)), true)
			// The bytes that were there once come back as new ones.
			w.saves(t, text(i), true)
			w.tells(t, l...)
			w.dirty(t, w.bitmapAt(i), w.indexAt(i), w.sectorAt(i))
			w.commit(t)
			w.tells(t, l...)
		}
	}
}

func Test9_2PlacesThatOthersHaveTaken(t *testing.T) {
	w := opened(t, loaded(t, image(t, 7, at(1, 1), 0, 2, 5)), 4, 7)
	w.begin(t)
	for n, i := range []int{3, 4, 6} {
		w.saves(t, text(50+n), true)
		if place, is := w.x.Find(digest(text(50 + n))); place != i || !is {
			t.Fatalf("it stands at %d, %v, want %d", place, is, i)
		}
	}
	w.refusesSave(t, text(60), api.ErrChunkFull)
	w.knows(t, stored{1, text(1), 1}, stored{3, text(50), 1}, stored{4, text(51), 1}, stored{6, text(52), 1})
	answers(t, "Free", w.m.Free(2), api.OK)
	w.saves(t, text(60), true)
	if l, e := w.m.List(); !slices.Equal(l, upTo(7)) || e != api.OK {
		t.Fatalf("taken are %v, %d", l, e)
	}
}

func Test9_2SaveFillsAStoreByItself(t *testing.T) {
	for _, count := range []int{1, 2, 6, 7, 13, 257} {
		w := made(t, 4, count)
		for i := range count {
			w.begin(t)
			w.saves(t, text(i), true)
			w.commit(t)
		}
		w.tells(t, at(1, upTo(count)...)...)
		w.begin(t)
		w.refusesSave(t, text(count), api.ErrChunkFull)
		for _, i := range edges(count) {
			w.drops(t, digest(text(i)), true)
		}
		w.tells(t, without(at(1, upTo(count)...), edges(count)...)...)
	}
}

func Test9_2OtherBytesWithTheSameDigest(t *testing.T) {
	for _, i := range []int{0, 5, 6} {
		for _, n := range []int{1, 65534, 65535} {
			for _, k := range []int{0, 128, 255} {
				w := made(t, 2, 7, at(n, i)...)
				other := []byte(text(i))
				other[k] ^= 1
				w.begin(t)
				answers(t, "Write", w.p.Write(w.sectorAt(i), string(other)), api.OK)
				for range 2 {
					w.unchanged(t, func() { w.refusesSave(t, text(i), api.ErrChunkClash) })
				}
				w.dirty(t, w.sectorAt(i))
				w.loads(t, digest(text(i)), string(other))
				w.knows(t, at(n, i)...)
				// These bytes have another digest: they are another chunk.
				w.saves(t, string(other), true)
				// Who names the digest alone is not asked for bytes.
				w.drops(t, digest(text(i)), n == 1)
				w.abort(t)
				w.reload(t)
				w.tells(t, at(n, i)...)
			}
		}
	}
}

func Test9_2ChunksThatDifferByOneByte(t *testing.T) {
	w := made(t, 8, 257)
	var l []stored
	for i := range 256 {
		b := []byte(strings.Repeat("\x00", 256))
		b[i] = 1
		l = append(l, stored{i, string(b), 1})
		w.begin(t)
		w.saves(t, string(b), true)
		w.commit(t)
	}
	w.begin(t)
	w.saves(t, strings.Repeat("\x00", 256), true)
	w.tells(t, append(l, stored{256, strings.Repeat("\x00", 256), 1})...)
}

// A chunk is any bytes: a page, a sector that is nought, letters of several bytes.
func Test9_2AnyBytesAreAChunk(t *testing.T) {
	w := made(t, 2, 7)
	l := []string{bitmapPage(t, 0, nil), indexPage(t, 0, nil), strings.Repeat("\x00", 256), strings.Repeat("\xff", 256), strings.Repeat("ä", 128)}
	w.begin(t)
	for i, s := range l {
		w.saves(t, s, true)
		w.saves(t, s, false)
		w.has(t, w.sectorAt(i), s)
		w.loads(t, digest(s), s)
		w.counts(t, digest(s), 2)
	}
	w.commit(t)
	w.reopen(t)
	for _, s := range l {
		w.loads(t, digest(s), s)
	}
}

func Test9_2ACountThatIsTheGreatest(t *testing.T) {
	for _, i := range []int{0, 6} {
		w := made(t, 2, 7, at(65534, 0, 6)...)
		w.begin(t)
		w.saves(t, text(i), false)
		for range 2 {
			w.unchanged(t, func() { w.refusesSave(t, text(i), api.ErrChunkCount) })
			w.unchanged(t, func() { w.holds(t, digest(text(i)), api.ErrChunkCount) })
		}
		w.dirty(t, w.indexAt(i))
		w.drops(t, digest(text(i)), false)
		w.saves(t, text(i), false)
		w.tells(t, with(at(65534, 0, 6), at(65535, i)...)...)
	}
}

func Test9_2CountedFromOneToTheGreatest(t *testing.T) {
	w := made(t, 2, 7)
	w.begin(t)
	for n := range 65535 {
		if n%2 == 0 {
			w.saves(t, text(0), n == 0)
		} else {
			w.holds(t, digest(text(0)), api.OK)
		}
	}
	w.tells(t, at(65535, 0)...)
	w.refusesSave(t, text(0), api.ErrChunkCount)
	for n := range 65535 {
		w.drops(t, digest(text(0)), n == 65534)
	}
	w.tells(t)
	w.sees(t)
}
