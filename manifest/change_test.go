package manifest_test

import (
	"math/rand"
	"slices"
	"testing"

	"strongbox/api"
)

// Each block of a volume alone: its leaf comes at the least free place, and goes with it.
func TestM6SetAndClearOfEachBlock(t *testing.T) {
	for block := range 60 {
		w := made(t, 4, places, sample())
		w.begin(t)
		w.unchanged(t, func() { w.refusesClear(t, 2, block, api.ErrManifestNone) })
		w.sets(t, 2, block, entry(1), 1)
		w.dirty(t, 19, w.sectorAt(2), w.sectorAt(7))
		m := sample().with(bare(2, 1, 0).set(block, 7, entry(1)))
		w.tells(t, m)
		w.sees(t, m)
		w.commit(t)
		w.tells(t, m)
		w.begin(t)
		w.clears(t, 2, block, 1)
		// The leaf's sector is let be.
		w.dirty(t, 19, w.sectorAt(2))
		w.has(t, w.sectorAt(7), m.of(2).leafPage(t, block/3))
		w.tells(t, sample())
		w.sees(t, sample())
		w.unchanged(t, func() { w.refusesClear(t, 2, block, api.ErrManifestNone) })
	}
}

// A leaf with one, two and three blocks mapped, by all orders in which they come and go.
func TestM6LeavesFillAndEmptyInEachOrder(t *testing.T) {
	orders := [][3]int{{0, 1, 2}, {0, 2, 1}, {1, 0, 2}, {1, 2, 0}, {2, 0, 1}, {2, 1, 0}}
	for _, leaf := range []int{0, 9, 19} {
		for _, in := range orders {
			for _, out := range orders {
				w := made(t, 4, places, sample())
				m := sample()
				for n, j := range in {
					w.begin(t)
					w.sets(t, 2, 3*leaf+j, entry(j), max(0, 1-n))
					if n > 0 {
						w.dirty(t, w.sectorAt(7))
					}
					m = m.with(m.of(2).set(3*leaf+j, 7, entry(j)))
					w.sees(t, m)
					w.isVolume(t, m.of(2))
					w.commit(t)
				}
				for n, j := range out {
					w.begin(t)
					w.clears(t, 2, 3*leaf+j, max(0, n-1))
					m = m.with(m.of(2).clear(3*leaf + j))
					if n < 2 {
						w.dirty(t, w.sectorAt(7))
					} else {
						w.dirty(t, 19, w.sectorAt(2))
					}
					w.sees(t, m)
					w.isVolume(t, m.of(2))
					w.unchanged(t, func() { w.refusesClear(t, 2, 3*leaf+j, api.ErrManifestNone) })
					w.commit(t)
				}
				w.tells(t, sample())
			}
		}
	}
}

// A block that is mapped is mapped anew, to another entry or the same: the leaf is written, and nothing else.
func TestM6SetInTheSteadOfAnEntry(t *testing.T) {
	for _, block := range sample().of(0).mapped() {
		for _, e := range []api.Entry{entry(1), entry(100 + block), {Digest: noughts(32), Wrapped: noughts(48)}} {
			w := made(t, 4, places, sample())
			w.begin(t)
			w.sets(t, 0, block, e, 0)
			w.dirty(t, w.sectorAt(sample().of(0).leaves[block/3]))
			m := sample().with(sample().of(0).set(block, -1, e))
			w.tells(t, m)
			w.sees(t, m)
		}
	}
}

// A leaf with a block of the others unmapped holds noughts there: what stood there is not kept.
func TestM6ALeafIsClearedByItsBytes(t *testing.T) {
	w := made(t, 4, places, sample())
	w.begin(t)
	for n, block := range []int{1, 0} {
		w.clears(t, 0, block, 0)
		s, _ := w.p.Read(w.sectorAt(1))
		for _, e := range []api.Entry{entry(101), entry(100)}[:n+1] {
			for i := range 200 {
				if s[8+i:8+i+32] == e.Digest || s[8+i:8+i+48] == e.Wrapped {
					t.Fatal("an entry is kept that is mapped no more")
				}
			}
		}
	}
	w.has(t, w.sectorAt(1), page(t, 7, 32*105, "\x04"+noughts(160)+entry(102).Digest+entry(102).Wrapped))
}

func TestM6SetRefusesEntriesThatAreNotRight(t *testing.T) {
	for _, root := range []int{0, 2, 1, 7, -1, places} {
		w := made(t, 2, places, sample())
		for range 2 {
			w.unchanged(t, func() {
				for _, e := range wrongEntries() {
					w.refusesSet(t, root, 0, e, api.ErrManifestEntry)
					w.refusesSet(t, root, 30, e, api.ErrManifestEntry)
					w.refusesSet(t, root, 60, e, api.ErrManifestBlock)
					w.refusesSet(t, root, -1, e, api.ErrManifestBlock)
				}
			})
			w.p.Begin()
		}
		w.write(t, w.nobodys(16)...)
		w.lose(t)
		for _, e := range wrongEntries() {
			w.refusesSet(t, root, 0, e, api.ErrManifestEntry)
		}
	}
}

func TestM6SetAndClearWantATransaction(t *testing.T) {
	w := made(t, 2, places, sample())
	for _, root := range []int{0, 2, 5, 1, 7, 8, -1, places} {
		for _, block := range []int{0, 7, 8, 30, 59} {
			w.unchanged(t, func() {
				w.refusesSet(t, root, block, entry(1), api.ErrPoolNone)
				w.refusesClear(t, root, block, api.ErrPoolNone)
			})
		}
	}
	answers(t, "Commit", w.p.Commit(), api.ErrPoolNone)
	w.lose(t)
	w.refusesSet(t, 0, 0, entry(1), api.ErrPoolNone)
	w.refusesClear(t, 0, 0, api.ErrPoolNone)
}

// A map of which no place is free, and of which one is.
func TestM6SetWhereNoPlaceIsFree(t *testing.T) {
	for _, count := range []int{12, 256, 257} {
		m := sample()
		m.others = append([]int{7, 8}, from(9, count-9)...)
		w := made(t, 4, count, m)
		w.begin(t)
		for _, block := range []int{3, 5, 30, 56} {
			w.unchanged(t, func() { w.refusesSet(t, 0, block, entry(1), api.ErrManifestFull) })
			w.unchanged(t, func() { w.refusesSet(t, 2, block, entry(1), api.ErrManifestFull) })
		}
		// Into a leaf that is there one comes all the same.
		w.sets(t, 0, 58, entry(1), 0)
		w.sets(t, 0, 6, entry(2), 0)
		v := m.of(0).set(58, -1, entry(1)).set(6, -1, entry(2))
		w.tells(t, m.with(v))
		// A full map is told ahead of a full transaction.
		w.write(t, w.nobodys(14)...)
		w.unchanged(t, func() { w.refusesSet(t, 0, 3, entry(1), api.ErrManifestFull) })
		w.abort(t)
		w.begin(t)
		answers(t, "Free", w.m.Free(count-1), api.OK)
		m.others = m.others[:len(m.others)-1]
		w.sets(t, 0, 3, entry(1), 1)
		m = m.with(m.of(0).set(3, count-1, entry(1)))
		w.tells(t, m)
		w.unchanged(t, func() { w.refusesSet(t, 0, 12, entry(1), api.ErrManifestFull) })
		// The place that a leaf gives back is the next one's.
		w.clears(t, 5, 59, 1)
		w.sets(t, 2, 12, entry(1), 1)
		m = m.with(m.of(5).clear(59), bare(2, 1, 0).set(12, 4, entry(1)))
		w.tells(t, m)
		w.sees(t, m)
	}
}

// The leaf and the root stand behind pages of the map that need not be the same.
func TestM8EachPageOfTheMap(t *testing.T) {
	for _, root := range []int{0, 255, 256, 511, 512} {
		for _, leaf := range []int{0, 254, 255, 256, 257, 511, 512} {
			if leaf == root {
				continue
			}
			others := slices.DeleteFunc(upTo(513), func(i int) bool { return i == root || i == leaf })
			m := state{others: others}.with(bare(root, 2, 22))
			w := made(t, 4, 513, m)
			w.begin(t)
			w.sets(t, root, 20, entry(1), 1)
			w.dirty(t, w.bitmapAt(leaf), w.sectorAt(root), w.sectorAt(leaf))
			now := m.with(bare(root, 2, 22).set(20, leaf, entry(1)))
			w.tells(t, now)
			w.sees(t, now)
			w.commit(t)
			w.begin(t)
			w.sets(t, root, 18, entry(2), 0)
			w.dirty(t, w.sectorAt(leaf))
			w.clears(t, root, 18, 0)
			w.abort(t)
			w.begin(t)
			w.clears(t, root, 20, 1)
			w.dirty(t, w.bitmapAt(leaf), w.sectorAt(root))
			w.commit(t)
			w.begin(t)
			w.destroys(t, root, api.OK)
			w.dirty(t, w.bitmapAt(root))
			w.sees(t, m.without(root))
		}
	}
}

// The bytes of the pages, as the chapter's words tell them.
func TestM8TheBytesOfThePages(t *testing.T) {
	w := made(t, 4, 600, state{others: upTo(298)})
	w.begin(t)
	w.creates(t, 3, 7, 298)
	e, f := entry(1), entry(2)
	w.sets(t, 298, 59, e, 1)
	w.sets(t, 298, 1, f, 1)
	w.sets(t, 298, 57, f, 0)
	w.has(t, w.sectorAt(298), page(t, 6, 307, "\x01\x2d"+noughts(36)+"\x01\x2c"))
	w.has(t, w.sectorAt(299), page(t, 7, 307*32+19, "\x05"+f.Digest+f.Wrapped+noughts(80)+e.Digest+e.Wrapped))
	w.has(t, w.sectorAt(300), page(t, 7, 307*32, "\x02"+noughts(80)+f.Digest+f.Wrapped+noughts(80)))
	w.sets(t, 298, 58, e, 0)
	w.has(t, w.sectorAt(299), page(t, 7, 307*32+19, "\x07"+f.Digest+f.Wrapped+e.Digest+e.Wrapped+e.Digest+e.Wrapped))
	w.clears(t, 298, 1, 1)
	w.has(t, w.sectorAt(298), page(t, 6, 307, noughts(38)+"\x01\x2c"))
	w.commit(t)
	l := w.d.Image()
	if l[w.sectorAt(298)] != page(t, 6, 307, noughts(38)+"\x01\x2c") {
		t.Fatal("the root page does not last")
	}
}

// A whole volume is filled and emptied block by block, each in a transaction of its own, in many orders.
func TestM9AVolumeIsFilledAndEmptied(t *testing.T) {
	for seed := range int64(4) {
		r := rand.New(rand.NewSource(seed))
		w := made(t, int(seed), 40, sample())
		m := sample()
		orders := [][]int{r.Perm(60), r.Perm(60)}
		if seed == 0 {
			orders = [][]int{upTo(60), upTo(60)}
		}
		for n, block := range orders[0] {
			v := m.of(2)
			more := 0
			if v.leaves[block/3] < 0 {
				more = 1
			}
			w.begin(t)
			w.sets(t, 2, block, entry(block), more)
			w.commit(t)
			m = m.with(v.set(block, m.free(), entry(block)))
			w.isVolume(t, m.of(2))
			if n%10 == 9 {
				w.tells(t, m)
				w.sees(t, m)
			}
		}
		w.maps(t, 2, 60, 21, api.OK)
		for n, block := range orders[1] {
			v := m.of(2).clear(block)
			fewer := 0
			if v.leaves[block/3] < 0 {
				fewer = 1
			}
			w.begin(t)
			w.clears(t, 2, block, fewer)
			w.commit(t)
			m = m.with(v)
			w.isVolume(t, v)
			if n%10 == 9 {
				w.tells(t, m)
				w.sees(t, m)
			}
		}
		w.tells(t, sample())
	}
}

// Two volumes of one tenant, and of two, side by side: what is done to one changes no page of another.
func TestM8OneVolumeChangesNoOther(t *testing.T) {
	for _, numbers := range [][2][2]int{{{1, 0}, {1, 1}}, {{1, 5}, {1, 5}}, {{1, 0}, {2, 0}}, {{1, 99}, {2, 0}}, {{8, 99}, {1, 0}}} {
		w := empty(t, 60)
		w.begin(t)
		w.creates(t, numbers[0][0], numbers[0][1], 0)
		w.creates(t, numbers[1][0], numbers[1][1], 1)
		w.commit(t)
		m := state{}.with(bare(0, numbers[0][0], numbers[0][1]), bare(1, numbers[1][0], numbers[1][1]))
		r := rand.New(rand.NewSource(7))
		for n := range 150 {
			root, block := r.Intn(2), r.Intn(12)*5
			other := m.of(1 - root)
			was := map[int]string{}
			for _, place := range other.places() {
				was[place], _ = w.p.Read(w.sectorAt(place))
			}
			w.begin(t)
			if v := m.of(root); v.blocks[block] == (api.Entry{}) {
				if _, e := w.s.Set(root, block, entry(n)); e != api.OK {
					t.Fatalf("Set = %d", e)
				}
				m = m.with(v.set(block, m.free(), entry(n)))
			} else {
				if _, e := w.s.Clear(root, block); e != api.OK {
					t.Fatalf("Clear = %d", e)
				}
				m = m.with(v.clear(block))
			}
			for place, s := range was {
				w.has(t, w.sectorAt(place), s)
				if slices.Contains(w.p.Dirty(), w.sectorAt(place)) {
					t.Fatalf("a page of another volume is written, at %d", place)
				}
			}
			w.commit(t)
			w.isVolume(t, other)
			w.isVolume(t, m.of(root))
		}
		w.tells(t, m)
		w.sees(t, m)
	}
}
