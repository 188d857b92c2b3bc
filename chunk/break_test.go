package chunk_test

import (
	"slices"
	"testing"

	"strongbox/api"
)

// trouble is what is wrong at once when a call is asked.
type trouble struct {
	none   bool // no transaction is open
	dead   bool // the disk is, which nobody has noticed
	lost   bool // the pool is
	others int  // how many other sectors the transaction has written
	near   []int
}

// troubles are all of them, with each choice of these sectors at hand.
func troubles(near ...int) []trouble {
	var l []trouble
	for n := range 8 {
		for _, others := range []int{0, 13, 14, 15, 16} {
			for choice := range 1 << len(near) {
				w := trouble{none: n&1 > 0, dead: n&2 > 0, lost: n&4 > 0, others: others}
				for k, i := range near {
					if choice>>k&1 > 0 {
						w.near = append(w.near, i)
					}
				}
				l = append(l, w)
			}
		}
	}
	return l
}

// in is a store of so many places in such trouble, in which these are.
func (w trouble) in(t *testing.T, count int, l ...stored) *parts {
	t.Helper()
	v := made(t, len(w.near), count, l...)
	if !w.none {
		v.begin(t)
		v.write(t, v.nobodys(w.others)...)
	}
	for _, i := range w.near {
		if _, e := v.p.Read(i); e != api.OK {
			t.Fatalf("Read(%d) = %d", i, e)
		}
	}
	switch {
	case w.lost:
		v.lose(t)
	case w.dead:
		v.kill(t)
	}
	return v
}

// isUnread tells whether a sector that the transaction has not written cannot be read.
func (w trouble) isUnread(i int) bool {
	return w.lost || w.dead && !slices.Contains(w.near, i)
}

// step is one of a call's: a sector is read, or written, or a page is read right ahead of its write.
type step struct {
	sector        int
	reads, writes bool
}

// walk is how far a call comes by its steps: what it writes, and what it answers.
func (w trouble) walk(steps ...step) ([]int, api.Errno) {
	var written []int
	for _, s := range steps {
		if s.reads && w.isUnread(s.sector) {
			return written, api.ErrDead
		}
		if s.writes {
			if w.others+len(written) == 16 {
				return written, api.ErrPoolFull
			}
			written = append(written, s.sector)
		}
	}
	return written, api.OK
}

// ask is a call, the errors of its own that apply, the steps ahead of these and behind them.
type ask struct {
	name   string
	do     func(v *parts) api.Errno
	args   api.Errno // told ahead of all
	first  []step
	own    api.Errno
	second []step
	now    []stored // what is there if all goes well
}

// want is what a call writes and answers.
func (a ask) want(w trouble) ([]int, api.Errno) {
	if a.args != api.OK {
		return nil, a.args
	}
	if w.none {
		return nil, api.ErrPoolNone
	}
	if _, e := w.walk(a.first...); e != api.OK {
		return nil, e
	}
	if a.own != api.OK {
		return nil, a.own
	}
	return w.walk(a.second...)
}

// Each call in each trouble: the error that is named first is told, and just what comes ahead of it is written.
func (a ask) inEachTrouble(t *testing.T, count int, l []stored, near ...int) {
	t.Helper()
	for _, w := range troubles(near...) {
		v := w.in(t, count, l...)
		written, want := a.want(w)
		if e := a.do(v); e != want {
			t.Fatalf("%s in %+v = %d, want %d", a.name, w, e, want)
		}
		if w.none {
			v.dirty(t)
			v.knows(t, l...)
			continue
		}
		v.dirty(t, append(v.nobodys(w.others), written...)...)
		switch want {
		case api.OK:
			v.knows(t, a.now...)
		case api.ErrDead, api.ErrPoolFull:
			// Nothing is promised of what it knows.
		default:
			v.knows(t, l...)
		}
		if !w.lost && want != api.ErrDead {
			for _, i := range written {
				v.has(t, i, image(t, count, a.now)[i])
			}
		}
		v.abort(t)
		v.dirty(t)
		if !w.lost && !w.dead {
			v.reload(t)
			v.tells(t, l...)
			continue
		}
		answers(t, "Crash", v.d.Crash(nil), api.OK)
		opened(t, v.d, 2, count).tells(t, l...)
	}
}

func save(cipher string) func(*parts) api.Errno {
	return func(v *parts) api.Errno {
		d, is, e := v.s.Save(cipher)
		if e != api.OK && (d != "" || is) {
			return -1
		}
		return e
	}
}

func hold(digest string) func(*parts) api.Errno {
	return func(v *parts) api.Errno { return v.s.Hold(digest) }
}

func drop(digest string) func(*parts) api.Errno {
	return func(v *parts) api.Errno {
		is, e := v.s.Drop(digest)
		if e != api.OK && is {
			return -1
		}
		return e
	}
}

// turn is a page that is read right ahead of its write.
func turn(i int) step { return step{i, true, true} }

func Test9_2ANewChunkInEachTrouble(t *testing.T) {
	for _, count := range []int{7, 13} {
		v := made(t, 0, count)
		for _, i := range []int{0, 6} {
			l := at(2, upTo(i)...)
			steps := []step{turn(v.bitmapAt(i)), {v.sectorAt(i), false, true}, turn(v.indexAt(i))}
			ask{
				name: "Save of a new one", do: save(text(50)), second: steps, now: with(l, stored{i, text(50), 1}),
			}.inEachTrouble(t, count, l, v.bitmapAt(i), v.indexAt(i), v.sectorAt(i))
		}
		// All places are taken: told behind the bitmap's page, ahead of the transaction's room.
		l := at(2, upTo(count)...)
		ask{
			name: "Save in a full store", do: save(text(50)), first: []step{{v.bitmapAt(0), true, false}}, own: api.ErrChunkFull,
		}.inEachTrouble(t, count, l, v.bitmapAt(0), v.indexAt(0))
	}
}

func Test9_2ANewChunkBehindAFullPageOfTheBitmap(t *testing.T) {
	v := made(t, 0, 257)
	l := at(2, upTo(256)...)
	steps := []step{{v.bitmapAt(0), true, false}, turn(v.bitmapAt(256)), {v.sectorAt(256), false, true}, turn(v.indexAt(256))}
	ask{
		name: "Save", do: save(text(500)), second: steps, now: with(l, stored{256, text(500), 1}),
	}.inEachTrouble(t, 257, l, v.bitmapAt(0), v.bitmapAt(256))
}

func Test9_2AChunkThatIsThereInEachTrouble(t *testing.T) {
	v := made(t, 0, 7)
	for _, i := range []int{0, 6} {
		bytes := []step{{v.sectorAt(i), true, false}}
		for _, c := range []struct {
			n    int
			own  api.Errno
			more int
		}{{1, api.OK, 2}, {65534, api.OK, 65535}, {65535, api.ErrChunkCount, 0}} {
			ask{
				name: "Save", do: save(text(i)), first: bytes, own: c.own, second: []step{turn(v.indexAt(i))}, now: at(c.more, i),
			}.inEachTrouble(t, 7, at(c.n, i), v.bitmapAt(i), v.indexAt(i), v.sectorAt(i))
		}
	}
}

// The sector is written over, in the transaction or on the disk: other bytes are told behind what cannot be read and ahead of the count.
func Test9_2OtherBytesInEachTrouble(t *testing.T) {
	for _, n := range []int{1, 65534, 65535} {
		for _, isWritten := range []bool{false, true} {
			v := made(t, 0, 7)
			i := v.sectorAt(6)
			for _, w := range troubles(v.indexAt(6), i) {
				if isWritten && (w.none || w.lost || w.others == 16) {
					continue
				}
				l := image(t, 7, at(n, 6))
				if !isWritten {
					l[i] = text(99)
				}
				v = opened(t, loaded(t, l), 2, 7)
				want := api.ErrChunkClash
				if w.none {
					want = api.ErrPoolNone
				} else {
					v.begin(t)
					v.write(t, v.nobodys(w.others)...)
				}
				if isWritten {
					v.write(t, i)
				}
				// Two other sectors push out what is at hand.
				for _, k := range append([]int{100, 101}, w.near...) {
					v.p.Read(k)
				}
				if w.lost {
					v.lose(t)
				} else if w.dead {
					v.kill(t)
				}
				if !w.none && !isWritten && w.isUnread(i) {
					want = api.ErrDead
				}
				dirty := v.p.Dirty()
				v.refusesSave(t, text(6), want)
				v.dirty(t, dirty...)
				v.knows(t, at(n, 6)...)
			}
		}
	}
}

func Test9_2WhatIsNoChunkInEachTrouble(t *testing.T) {
	for _, l := range [][]stored{nil, at(65535, upTo(7)...)} {
		for _, n := range []int{0, 255, 257} {
			ask{
				name: "Save of no chunk", do: save((text(0) + "x")[:n]), args: api.ErrChunkSize,
			}.inEachTrouble(t, 7, l, 19, 20)
		}
	}
}

func Test9_3HoldInEachTrouble(t *testing.T) {
	v := made(t, 0, 7)
	for _, i := range []int{0, 6} {
		for _, n := range []int{1, 2, 65534} {
			ask{
				name: "Hold", do: hold(digest(text(i))), second: []step{turn(v.indexAt(i))}, now: at(n+1, i),
			}.inEachTrouble(t, 7, at(n, i), v.bitmapAt(i), v.indexAt(i), v.sectorAt(i))
		}
		ask{
			name: "Hold", do: hold(digest(text(i))), own: api.ErrChunkCount,
		}.inEachTrouble(t, 7, at(65535, i), v.bitmapAt(i), v.indexAt(i), v.sectorAt(i))
	}
}

func Test9_3HoldAndDropOfNoneInEachTrouble(t *testing.T) {
	for _, d := range noDigests() {
		for name, do := range map[string]func(*parts) api.Errno{"Hold": hold(d), "Drop": drop(d)} {
			ask{name: name, do: do, own: api.ErrChunkNone}.inEachTrouble(t, 7, at(65535, 0), 20)
		}
	}
}

func Test9_4DropInEachTrouble(t *testing.T) {
	v := made(t, 0, 7)
	for _, i := range []int{0, 6} {
		for _, n := range []int{2, 3, 65535} {
			ask{
				name: "Drop", do: drop(digest(text(i))), second: []step{turn(v.indexAt(i))}, now: at(n-1, i),
			}.inEachTrouble(t, 7, at(n, i), v.bitmapAt(i), v.indexAt(i), v.sectorAt(i))
		}
		ask{
			name: "Drop of the last", do: drop(digest(text(i))), second: []step{turn(v.indexAt(i)), turn(v.bitmapAt(i))},
		}.inEachTrouble(t, 7, at(1, i), v.bitmapAt(i), v.indexAt(i), v.sectorAt(i))
	}
}

// Pages that the transaction has written already need no room, and no disk.
func TestR4PagesThatWereWrittenAreWrittenAgain(t *testing.T) {
	for _, isDead := range []bool{false, true} {
		w := made(t, 0, 7, at(2, 0)...)
		w.begin(t)
		w.saves(t, text(1), true)
		w.write(t, w.nobodys(12)...)
		w.saves(t, text(2), true)
		if isDead {
			w.kill(t)
		}
		w.holds(t, digest(text(0)), api.OK)
		w.saves(t, text(2), false)
		w.drops(t, digest(text(2)), false)
		w.drops(t, digest(text(2)), true)
		w.saves(t, text(2), true)
		w.drops(t, digest(text(1)), true)
		// The place 1 was written: other bytes come there, but none at the place 3.
		w.saves(t, text(30), true)
		w.knows(t, with(at(3, 0), stored{1, text(30), 1}, stored{2, text(2), 1})...)
		w.has(t, w.sectorAt(1), text(30))
		w.refusesSave(t, text(31), api.ErrPoolFull)
		w.dirty(t, append(w.nobodys(12), 19, 20, w.sectorAt(1), w.sectorAt(2))...)
	}
}

// Twelve new chunks are the most that an empty store takes in one transaction: the bitmap's page, two of the index's and twelve sectors; of the next one's sector and page of the index only the sector has room.
func TestR4HowManyChunksATransactionTakes(t *testing.T) {
	for _, c := range []struct{ count, most int }{{6, 6}, {12, 12}, {13, 12}, {18, 12}, {20, 12}, {257, 12}} {
		w := made(t, 2, c.count)
		w.begin(t)
		for i := range c.most {
			w.saves(t, text(i), true)
		}
		want := api.ErrPoolFull
		if c.most == c.count {
			want = api.ErrChunkFull
		}
		w.refusesSave(t, text(c.most), want)
		w.abort(t)
		w.reload(t)
		w.tells(t)
	}
}
