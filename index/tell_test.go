package index_test

import (
	"math"
	"slices"
	"strings"
	"testing"

	"strongbox/api"
	"strongbox/index"
	"strongbox/pool"
)

// noPlaces are numbers of which an index of so many has no place.
func noPlaces(count int) []int {
	return []int{-1, count, -2, -6, -count, count + 1, 6 * pagesOf(count), 6*pagesOf(count) + 1, 1024, 1 << 32, math.MaxInt, math.MinInt}
}

// edges are the first and the last places of pages of an index of so many.
func edges(count int) []int {
	l := []int{0, 1, 4, 5, 6, 7, 10, 11, 12, 500, 1019, 1020, 1022, 1023, count - 1, count - 2, count / 2}
	l = slices.DeleteFunc(l, func(i int) bool { return i < 0 || i >= count })
	slices.Sort(l)
	return slices.Compact(l)
}

func TestI3WhatIsToldOfOnePlace(t *testing.T) {
	for _, count := range counts() {
		for _, i := range edges(count) {
			_, _, x := made(t, 2, count, at(i)...)
			tells(t, x, count, at(i)...)
			rest := without(at(upTo(count)...), i)
			_, _, x = made(t, 2, count, rest...)
			tells(t, x, count, rest...)
			findsNot(t, x, digest(i))
		}
	}
}

func TestI3GetRefusesWhatIsNoPlace(t *testing.T) {
	for _, count := range counts() {
		d, p, x := made(t, 2, count, at(upTo(count)...)...)
		for _, i := range noPlaces(count) {
			refusesGet(t, x, i, api.ErrIndexPlace)
		}
		lose(t, d, p)
		for _, i := range noPlaces(count) {
			refusesGet(t, x, i, api.ErrIndexPlace)
		}
	}
}

func TestI3FindOfWhatIsNoDigest(t *testing.T) {
	a := strings.Repeat("a", 32)
	_, _, x := made(t, 2, 7, slot(3, a, 2), slot(4, strings.Repeat("a", 31)+"\x00", 1), slot(5, none()[:32], 1))
	finds(t, x, a, 3)
	for _, s := range []string{"", "a", a[:31], a + "a", a + "\x00", a + a, "\x00", none()[:31], none()[:33], strings.Repeat("a", 1000)} {
		findsNot(t, x, s)
	}
}

func TestI3DigestsThatDifferInOneBit(t *testing.T) {
	a := digest(0)
	_, _, x := made(t, 2, 7, slot(5, a, 2))
	for i := range 256 {
		b := []byte(a)
		b[i/8] ^= 1 << (i % 8)
		findsNot(t, x, string(b))
	}
	finds(t, x, a, 5)
}

func TestI3EachTellsByRisingPlaces(t *testing.T) {
	for _, count := range counts() {
		// The digests fall while the places rise.
		var l []api.Slot
		for i := range count {
			l = append(l, slot(i, digest(count-i), 1+i))
		}
		_, _, x := made(t, 2, count, l...)
		for range 5 {
			lists(t, x, l...)
		}
	}
}

func TestI3EachTellsByRisingPlacesInWhateverOrderTheyCame(t *testing.T) {
	_, p, x := made(t, 2, 40)
	begin(t, p)
	l := at(upTo(40)...)
	for i := range l {
		puts(t, x, l[i*7%40], api.OK)
	}
	for range 5 {
		tells(t, x, 40, l...)
	}
}

func TestI3TheyNeedNoTransactionAndChangeNothing(t *testing.T) {
	d, p, x := made(t, 2, 13, at(5, 12)...)
	for range 2 {
		tells(t, x, 13, at(5, 12)...)
		answers(t, "Abort", p.Abort(), api.ErrPoolNone)
		dirty(t, p)
	}
	begin(t, p)
	write(t, p, 40, text(1))
	tells(t, x, 13, at(5, 12)...)
	dirty(t, p, 40)
	holds(t, p, 40, text(1))
	answers(t, "Begin", p.Begin(), api.ErrPoolOpen)
	if len(d.Trace()) != 0 {
		t.Fatalf("acts %v", d.Trace())
	}
}

func TestI3TheyAskNoDisk(t *testing.T) {
	for _, keep := range []int{0, 1, 64} {
		for _, open := range []bool{false, true} {
			d, p, x := made(t, keep, 13, at(5, 12)...)
			if open {
				begin(t, p)
			}
			was := p.Stats()
			tells(t, x, 13, at(5, 12)...)
			if p.Stats() != was {
				t.Fatalf("Stats = %v, want %v", p.Stats(), was)
			}
			// A pool would be lost by asking a dead disk.
			kill(t, d)
			tells(t, x, 13, at(5, 12)...)
			answers(t, "Crash", d.Crash(nil), api.OK)
			holds(t, p, 19, page(t, 4, 0, body(0, at(5)...)))
			lose(t, d, p)
			for range 2 {
				tells(t, x, 13, at(5, 12)...)
			}
			if open {
				abort(t, p)
			}
			tells(t, x, 13, at(5, 12)...)
			answers(t, "Crash", d.Crash(nil), api.OK)
			tells(t, x, 13, at(5, 12)...)
		}
	}
}

func TestI3TheyTellWhatIsKnownWhateverThePagesSay(t *testing.T) {
	for _, keep := range []int{0, 64} {
		_, p, x := made(t, keep, 13, at(5, 12)...)
		begin(t, p)
		write(t, p, 19, page(t, 4, 0, body(0, at(0)...)))
		write(t, p, 20, text(1))
		write(t, p, 21, page(t, 4, 2, body(2)))
		tells(t, x, 13, at(5, 12)...)
		commit(t, p)
		tells(t, x, 13, at(5, 12)...)
	}
}

func TestI3OfWhatWasPutOnADiskThatIsDeadThen(t *testing.T) {
	d, p, x := made(t, 0, 13, at(5)...)
	begin(t, p)
	puts(t, x, at(12)[0], api.OK)
	clears(t, x, 5, api.OK)
	lose(t, d, p)
	tells(t, x, 13, at(12)...)
	answers(t, "Commit", p.Commit(), api.ErrDead)
	tells(t, x, 13, at(12)...)
}

// spoil writes into a list and its spare room.
func spoil(l []api.Slot) {
	for i := range l[:cap(l)] {
		l[:cap(l)][i] = slot(77, "x", 77)
	}
}

func TestR2ListsAreTheCallers(t *testing.T) {
	_, p, x := made(t, 2, 13, at(0, 5, 12)...)
	a, b := x.Each(), x.Each()
	spoil(a)
	if !slices.Equal(b, at(0, 5, 12)) {
		t.Fatalf("Each = %v", b)
	}
	tells(t, x, 13, at(0, 5, 12)...)
	begin(t, p)
	puts(t, x, slot(5, digest(50), 9), api.OK)
	clears(t, x, 0, api.OK)
	if !slices.Equal(b, at(0, 5, 12)) {
		t.Fatalf("a list that was given out is %v now", b)
	}
	spoil(b)
	tells(t, x, 13, with(at(12), slot(5, digest(50), 9))...)
	reloads(t, x, api.OK)
	tells(t, x, 13, with(at(12), slot(5, digest(50), 9))...)
}

func TestR2OneIndexDoesNotDisturbAnotherOne(t *testing.T) {
	var pools []*pool.Pool
	var indexes []*index.Index
	for n := range 4 {
		_, p, x := made(t, n, 13, at(n)...)
		begin(t, p)
		pools, indexes = append(pools, p), append(indexes, x)
	}
	for n, x := range indexes {
		puts(t, x, slot(12-n, digest(100), 1+n), api.OK)
	}
	for n, x := range indexes {
		tells(t, x, 13, with(at(n), slot(12-n, digest(100), 1+n))...)
		abort(t, pools[n])
		reloads(t, x, api.OK)
		tells(t, x, 13, at(n)...)
	}
}
