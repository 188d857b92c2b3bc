package chunk_test

import (
	"slices"
	"testing"

	"strongbox/api"
)

func Test9_5TellsOfEachChunk(t *testing.T) {
	for _, count := range counts() {
		for _, n := range []int{1, 2, 255, 256, 65534, 65535} {
			for _, l := range [][]stored{nil, at(n, 0), at(n, count-1), at(n, edges(count)...), at(n, upTo(count)...)} {
				w := made(t, 3, count, l...)
				for range 2 {
					w.tells(t, l...)
					w.p.Begin()
				}
				w.dirty(t)
				w.sees(t, l...)
				if len(w.d.Trace()) != 0 {
					t.Fatalf("acts %v", w.d.Trace())
				}
			}
		}
	}
}

func Test9_5LoadAsksForOneSector(t *testing.T) {
	w := made(t, 64, 7, at(2, 0, 6)...)
	for _, i := range []int{0, 6} {
		n := w.p.Stats()
		w.loads(t, digest(text(i)), text(i))
		if w.p.Stats().Misses != n.Misses+1 || w.p.Stats().Hits != n.Hits {
			t.Fatalf("Load asks for %v, behind %v", w.p.Stats(), n)
		}
		w.loads(t, digest(text(i)), text(i))
		if w.p.Stats().Misses != n.Misses+1 || w.p.Stats().Hits != n.Hits+1 {
			t.Fatalf("Load asks for %v, behind %v", w.p.Stats(), n)
		}
	}
	n := w.asked()
	for _, d := range noDigests() {
		w.refusesLoad(t, d, api.ErrChunkNone)
	}
	if w.asked() != n {
		t.Fatal("Load of none asks the disk")
	}
}

// Load tells what stands in the sector, as the transaction sees it.
func Test9_5LoadTellsTheSector(t *testing.T) {
	w := made(t, 2, 7, at(2, 3)...)
	w.begin(t)
	w.write(t, w.sectorAt(3))
	w.loads(t, digest(text(3)), text(2000000+w.sectorAt(3)))
	w.abort(t)
	w.loads(t, digest(text(3)), text(3))
}

func Test9_5CountAndChunksAskNoDisk(t *testing.T) {
	l := at(7, 0, 5, 6, 12)
	for _, keep := range []int{0, 1, 64} {
		for _, isLost := range []bool{false, true} {
			w := made(t, keep, 13, l...)
			n := w.p.Stats()
			w.knows(t, l...)
			if w.p.Stats() != n {
				t.Fatal("Count or Chunks ask the disk")
			}
			if isLost {
				w.lose(t)
			} else {
				w.kill(t)
			}
			w.knows(t, l...)
			answers(t, "Crash", w.d.Crash(nil), api.OK)
			w.knows(t, l...)
		}
	}
}

func Test9_5LoadOfADeadDisk(t *testing.T) {
	// Of what is at hand or written, no disk is asked, until death has been told once.
	w := made(t, 1, 7, at(2, 0, 1, 2)...)
	w.begin(t)
	w.saves(t, text(3), true)
	w.loads(t, digest(text(1)), text(1))
	w.kill(t)
	w.loads(t, digest(text(1)), text(1))
	w.loads(t, digest(text(3)), text(3))
	w.refusesLoad(t, digest(text(2)), api.ErrDead)
	for _, i := range []int{0, 1, 2, 3} {
		w.refusesLoad(t, digest(text(i)), api.ErrDead)
	}
	for _, d := range noDigests() {
		w.refusesLoad(t, d, api.ErrChunkNone)
	}
	w.refusesSave(t, text(1), api.ErrDead)
	w.refusesSave(t, text(50), api.ErrDead)
	w.refuses(t, digest(text(1)), api.ErrDead)
	w.refuses(t, "x", api.ErrChunkNone)
	w.refusesSave(t, "", api.ErrChunkSize)
	w.knows(t, with(at(2, 0, 1, 2), at(1, 3)...)...)
	w.abort(t)
	w.refusesSave(t, text(1), api.ErrPoolNone)
	w.refuses(t, digest(text(1)), api.ErrPoolNone)
	w.refusesLoad(t, digest(text(1)), api.ErrDead)
	// Also behind a Crash, until all is opened anew.
	answers(t, "Crash", w.d.Crash(nil), api.OK)
	w.refusesLoad(t, digest(text(1)), api.ErrDead)
	w = opened(t, w.d, 1, 7)
	w.tells(t, at(2, 0, 1, 2)...)
}

func TestR2WhatWasHandedOutStays(t *testing.T) {
	w := made(t, 1, 2)
	w.begin(t)
	b := []byte(text(0))
	d, _, _ := w.s.Save(string(b))
	s, _ := w.s.Load(d)
	clear(b)
	w.drops(t, d, true)
	w.saves(t, text(1), true)
	w.commit(t)
	if d != digest(text(0)) || s != text(0) {
		t.Fatal("what was handed out has changed")
	}
	if l := w.d.Image(); !slices.Contains(l, text(1)) {
		t.Fatal("it does not last")
	}
}
