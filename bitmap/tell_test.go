package bitmap_test

import (
	"math"
	"slices"
	"testing"

	"strongbox/api"
	"strongbox/bitmap"
)

// noPlaces are numbers of which a map of so many has no place.
func noPlaces(count int) []int {
	return []int{-1, count, -2, -8, -256, -count, count + 1, count + 255, 256 * pagesOf(count), 256*pagesOf(count) + 1, 1 << 32, math.MaxInt, math.MinInt}
}

// edges are the first and the last bits of bytes and pages of a map of so many places.
func edges(count int) []int {
	l := []int{0, 1, 7, 8, 9, 15, 16, 247, 248, 254, 255, 256, 257, 263, 264, 511, 512, 767, 768, 1016, 1023, count - 1, count - 2, count / 2}
	l = slices.DeleteFunc(l, func(i int) bool { return i < 0 || i >= count })
	slices.Sort(l)
	return slices.Compact(l)
}

func TestB3WhatIsToldOfOnePlace(t *testing.T) {
	for _, count := range counts() {
		for _, i := range edges(count) {
			_, _, m := made(t, 2, count, i)
			tells(t, m, count, i)
			_, _, m = made(t, 2, count, without(upTo(count), i)...)
			tells(t, m, count, without(upTo(count), i)...)
		}
	}
}

func TestB3WhichBitIsWhichPlaces(t *testing.T) {
	// Of each byte one bit, of a page that is written out here by hand.
	b := make([]byte, 32)
	b[0], b[1], b[31] = 1, 128, 64
	p := pooled(t, loaded(t, image(t, 128, 19, page(t, 3, 0, string(b)), page(t, 3, 1, "\x02"+string(make([]byte, 31))))), 2)
	tells(t, opened(t, p, 19, 258), 258, 0, 15, 254, 257)
}

func TestB3UsedRefusesWhatIsNoPlace(t *testing.T) {
	for _, count := range counts() {
		d, p, m := made(t, 2, count, upTo(count)...)
		for _, i := range noPlaces(count) {
			refusesUsed(t, m, i, api.ErrBitmapPlace)
		}
		lose(t, d, p)
		for _, i := range noPlaces(count) {
			refusesUsed(t, m, i, api.ErrBitmapPlace)
		}
	}
}

func TestB3NoneNeedsATransactionNorChangesAnything(t *testing.T) {
	d, p, m := made(t, 2, 300, 5, 299)
	for range 2 {
		tells(t, m, 300, 5, 299)
		answers(t, "Abort", p.Abort(), api.ErrPoolNone)
		dirty(t, p)
	}
	begin(t, p)
	write(t, p, 40, text(1))
	tells(t, m, 300, 5, 299)
	dirty(t, p, 40)
	holds(t, p, 40, text(1))
	answers(t, "Begin", p.Begin(), api.ErrPoolOpen)
	if len(d.Trace()) != 0 {
		t.Fatalf("acts %v", d.Trace())
	}
}

// told are the errors of the calls that tell something; none, if one of them has told something beside its error.
func told(m *bitmap.Map, i int) []api.Errno {
	u, e := m.Used(i)
	n, f := m.Count()
	l, g := m.List()
	if u && e != api.OK || n != 0 && f != api.OK || len(l) != 0 && g != api.OK {
		return nil
	}
	return []api.Errno{e, f, g}
}

func dead3() []api.Errno { return []api.Errno{api.ErrDead, api.ErrDead, api.ErrDead} }

func TestB3OfADeadDisk(t *testing.T) {
	for _, i := range []int{0, 255, 256, 299} {
		for _, open := range []bool{false, true} {
			// Nothing is kept at hand, so the disk must be asked.
			d, p, m := made(t, 0, 300, 0, 255, 256, 299)
			if open {
				begin(t, p)
			}
			kill(t, d)
			for range 3 {
				if l := told(m, i); !slices.Equal(l, dead3()) {
					t.Fatalf("Used, Count and List of a dead disk: %v", l)
				}
				refusesUsed(t, m, 300, api.ErrBitmapPlace)
				refusesUsed(t, m, -1, api.ErrBitmapPlace)
			}
			// It stays so when the disk lives again, until it is opened anew.
			answers(t, "Crash", d.Crash(nil), api.OK)
			if l := told(m, i); !slices.Equal(l, dead3()) {
				t.Fatalf("Used, Count and List of a lost pool: %v", l)
			}
			tells(t, opened(t, pooled(t, d, 0), 19, 300), 300, 0, 255, 256, 299)
		}
	}
}

func TestB3EachOfADeadDiskByItself(t *testing.T) {
	calls := []func(m *bitmap.Map) (bool, api.Errno){
		func(m *bitmap.Map) (bool, api.Errno) { u, e := m.Used(299); return !u, e },
		func(m *bitmap.Map) (bool, api.Errno) { n, e := m.Count(); return n == 0, e },
		func(m *bitmap.Map) (bool, api.Errno) { l, e := m.List(); return len(l) == 0, e },
	}
	for k, call := range calls {
		// The first page is written by the transaction, so only the second one cannot be read.
		d, p, m := made(t, 0, 300, 299)
		begin(t, p)
		write(t, p, 19, page(t, 3, 0, body(0, 1, 2)))
		kill(t, d)
		if none, e := call(m); !none || e != api.ErrDead {
			t.Fatalf("call %d of a dead disk: nothing else told is %v, %d", k, none, e)
		}
		for j, call := range calls {
			if none, e := call(m); !none || e != api.ErrDead {
				t.Fatalf("call %d behind %d of a lost pool: nothing else told is %v, %d", j, k, none, e)
			}
		}
		refusesUsed(t, m, 1, api.ErrDead)
	}
}

func TestB3OfALostPoolWhatTheTransactionWroteIsNotToldEither(t *testing.T) {
	d, p, m := made(t, 64, 20)
	begin(t, p)
	allocs(t, m, 0)
	lose(t, d, p)
	if l := told(m, 0); !slices.Equal(l, dead3()) {
		t.Fatalf("Used, Count and List of a lost pool: %v", l)
	}
	abort(t, p)
	if l := told(m, 0); !slices.Equal(l, dead3()) {
		t.Fatalf("Used, Count and List of a lost pool: %v", l)
	}
}

func TestR2ListsAreTheCallers(t *testing.T) {
	_, p, m := made(t, 2, 300, 5, 255, 256, 299)
	a, _ := m.List()
	b, _ := m.List()
	for i := range a {
		a[i] = 77
	}
	a = append(a[:0:cap(a)], from(100, cap(a))...)
	if !slices.Equal(b, []int{5, 255, 256, 299}) {
		t.Fatalf("List = %v", b)
	}
	lists(t, m, 5, 255, 256, 299)
	begin(t, p)
	allocs(t, m, 0)
	frees(t, m, 256, api.OK)
	if !slices.Equal(b, []int{5, 255, 256, 299}) {
		t.Fatalf("a list that was given out is %v now", b)
	}
	lists(t, m, 0, 5, 255, 299)
}

func TestR5PagesThatOthersSpoiledAreNotAnswered(t *testing.T) {
	_, p, m := made(t, 2, 300, 5, 299)
	begin(t, p)
	for _, s := range noPages(t, 1) {
		write(t, p, 20, s)
		refusesUsed(t, m, 299, api.ErrBitmapForm)
		refusesLists(t, m, api.ErrBitmapForm)
		frees(t, m, 299, api.ErrBitmapForm)
		uses(t, m, 5, true)
		holds(t, p, 20, s)
	}
	write(t, p, 19, text(1))
	refusesAlloc(t, m, api.ErrBitmapForm)
	abort(t, p)
	tells(t, m, 300, 5, 299)
}
