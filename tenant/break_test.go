package tenant_test

import (
	"fmt"
	"math"
	"slices"
	"testing"

	"strongbox/api"
)

// trouble is what is wrong at once when a call is asked.
type trouble struct {
	none   bool  // no transaction is open
	dead   bool  // the disk is, which nobody has noticed
	lost   bool  // the pool is
	others int   // how many other sectors the transaction has written
	near   []int // the tenants whose pages are at hand
}

// troubles are all of them, with each choice of pages at hand that matters to a tenant.
func troubles(number int) []trouble {
	all := from(1, 8)
	other := number%8 + 1
	without := func(k int) []int {
		return slices.DeleteFunc(slices.Clone(all), func(i int) bool { return i == k })
	}
	var l []trouble
	for n := range 8 {
		for _, others := range []int{0, 14, 15, 16} {
			for _, near := range [][]int{nil, all, {number}, {other}, without(number), without(other)} {
				w := trouble{none: n&1 > 0, dead: n&2 > 0, lost: n&4 > 0, others: others, near: near}
				if !w.none || others == 0 {
					l = append(l, w)
				}
			}
		}
	}
	return l
}

// in is a table on such an image, in such trouble.
func (w trouble) in(t *testing.T, image []string) *parts {
	t.Helper()
	v := opened(t, loaded(t, image), len(w.near), room)
	if !w.none {
		v.begin(t)
		v.write(t, nobodys(w.others)...)
	}
	for _, k := range w.near {
		if _, e := v.p.Read(v.sector(k)); e != api.OK {
			t.Fatalf("Read = %d", e)
		}
	}
	switch {
	case w.lost:
		v.lose(t)
	case w.dead:
		v.kill(t)
	}
	return v
}

// errno is the error that is named first of those that apply.
func (w trouble) errno(c call, own api.Errno) api.Errno {
	switch {
	case own == api.ErrArg:
		return own
	case c.changes() && w.none:
		return api.ErrPoolNone
	case w.lost, w.dead && len(w.near) < 8:
		return api.ErrDead
	case own != api.OK:
		return own
	case c.changes() && w.others == 16:
		return api.ErrPoolFull
	}
	return api.OK
}

// inEachTrouble asks a call in each trouble: the error that is named first is told, and nothing is written but the tenant's page, if there is none.
func (c call) inEachTrouble(t *testing.T) {
	t.Helper()
	was := image(t, 128, 19, sample().pages(t)...)
	own, now := sample().asked(c, room)
	for _, w := range troubles(max(1, min(c.tenant, 8))) {
		v := w.in(t, was)
		want := own
		if e := w.errno(c, own.e); e != api.OK {
			want = answer{e: e}
		}
		if got := c.of(v.x); fmt.Sprint(got) != fmt.Sprint(want) {
			t.Fatalf("%v in %+v = %v, want %v", c, w, got, want)
		}
		written := nobodys(w.others)
		if want.e == api.OK && c.changes() {
			written = append(written, v.sector(c.tenant))
		}
		v.dirty(t, written...)
		if want.e == api.OK && !w.dead && !w.lost {
			v.sees(t, now)
		}
		v.takenBack(t, w, was)
	}
}

// takenBack aborts, and looks whether all is as it was.
func (v *parts) takenBack(t *testing.T, w trouble, was []string) {
	t.Helper()
	if !w.none {
		v.abort(t)
	}
	v.dirty(t)
	if w.lost || w.dead {
		answers(t, "Crash", v.d.Crash(nil), api.OK)
		v = opened(t, v.d, 2, room)
	}
	v.sees(t, sample())
	if !slices.Equal(v.d.Image(), was) {
		t.Fatal("what lasts has changed")
	}
}

func TestT4AddInEachTrouble(t *testing.T) {
	for _, c := range []call{
		add(2, 56), add(5, 0),
		add(2, 57), add(5, 65535), // no room
		add(1, 0), add(4, 57), add(8, 65535), // twice
		add(0, 0), add(9, 0), add(2, -1), add(1, 65536),
	} {
		c.inEachTrouble(t)
	}
}

func TestT4RemoveInEachTrouble(t *testing.T) {
	for _, c := range []call{remove(3), remove(2), remove(7), remove(1), remove(4), remove(0), remove(9)} {
		c.inEachTrouble(t)
	}
}

func TestT5TellingInEachTrouble(t *testing.T) {
	for _, c := range []call{get(1), get(3), get(4), get(8), get(2), get(0), get(9), list(), left()} {
		c.inEachTrouble(t)
	}
}

func TestT6VolumesInEachTrouble(t *testing.T) {
	for _, c := range []call{
		addVolume(1, 3, 9), addVolume(3, 0, 0), addVolume(8, 99, 1023),
		addVolume(2, 5, 9),                      // nobody
		addVolume(1, 5, 9), addVolume(4, 99, 9), // twice
		addVolume(4, 2, 9), // too many
		addVolume(0, 1, 1), addVolume(9, 1, 1), addVolume(1, -1, 1), addVolume(4, 100, 1), addVolume(1, 5, -1), addVolume(2, 1, 1024),
		removeVolume(1, 5), removeVolume(4, 0), removeVolume(6, 99),
		removeVolume(2, 5), removeVolume(1, 4), removeVolume(3, 0),
		removeVolume(0, 5), removeVolume(9, 5), removeVolume(1, -1), removeVolume(2, 100),
		root(1, 2), root(4, 0), root(6, 99), root(2, 5), root(1, 3), root(3, 0), root(0, 2), root(9, 2), root(1, -1), root(2, 100),
	} {
		c.inEachTrouble(t)
	}
}

func TestT7ChargeInEachTrouble(t *testing.T) {
	for _, c := range []call{
		charge(1, 0), charge(1, 80), charge(1, -3), charge(3, 0), charge(4, -300),
		charge(1, 81), charge(3, 1), charge(4, math.MaxInt),
		charge(1, -4), charge(3, -1), charge(4, math.MinInt),
		charge(2, 0), charge(5, math.MaxInt), charge(7, math.MinInt),
		charge(0, 0), charge(9, 0),
	} {
		c.inEachTrouble(t)
	}
}

// Without a transaction nothing is changed, whatever is asked.
func TestT3ChangesWantATransaction(t *testing.T) {
	w := made(t, 4, room, sample())
	for k := 1; k <= 8; k++ {
		w.unchanged(t, func() {
			for _, c := range []call{add(k, 0), add(k, 65535), remove(k), addVolume(k, 5, 5), addVolume(k, 77, 0), removeVolume(k, 50), removeVolume(k, 3), charge(k, 0), charge(k, math.MaxInt), charge(k, math.MinInt)} {
				w.refuses(t, c, api.ErrPoolNone)
			}
		})
	}
	answers(t, "Abort", w.p.Abort(), api.ErrPoolNone)
	// Behind one that has ended, too.
	for _, end := range []func(*testing.T){w.commit, w.abort} {
		w.begin(t)
		w.does(t, charge(1, 0))
		end(t)
		w.refuses(t, charge(1, 0), api.ErrPoolNone)
		w.refuses(t, add(2, 0), api.ErrPoolNone)
	}
	// It is told ahead of a pool that is lost.
	w.lose(t)
	for _, c := range []call{add(2, 0), remove(3), addVolume(1, 1, 1), removeVolume(1, 5), charge(1, 0)} {
		w.refuses(t, c, api.ErrPoolNone)
	}
}

// A page that the transaction has written already needs no room.
func TestR4PagesThatWereWrittenAreWrittenAgain(t *testing.T) {
	w := made(t, 8, room, sample())
	w.begin(t)
	w.write(t, nobodys(14)...)
	w.does(t, add(2, 6))
	w.does(t, charge(1, 1))
	m := sample().with(one(2, 6, 0), one(1, 83, 4, 2, 7, 5, 0))
	for _, c := range []call{
		charge(2, 6), addVolume(2, 1, 1), removeVolume(2, 1), remove(2), add(2, 7), addVolume(2, 4, 4),
		charge(1, 0), addVolume(1, 1, 1), removeVolume(1, 5), charge(1, -4),
	} {
		m = w.follows(t, c, m)
	}
	w.tells(t, m)
	w.sees(t, m)
	w.unchanged(t, func() {
		for _, c := range []call{add(5, 0), remove(3), addVolume(8, 1, 1), removeVolume(4, 0), charge(4, 0), charge(6, 1)} {
			w.refuses(t, c, api.ErrPoolFull)
		}
		// Behind every other error.
		w.refuses(t, add(5, 60), api.ErrTenantRoom)
		w.refuses(t, add(4, 0), api.ErrTenantTwice)
		w.refuses(t, remove(5), api.ErrTenantNone)
		w.refuses(t, remove(4), api.ErrTenantUsed)
		w.refuses(t, addVolume(5, 0, 0), api.ErrTenantNone)
		w.refuses(t, addVolume(4, 0, 0), api.ErrVolumeTwice)
		w.refuses(t, addVolume(4, 2, 0), api.ErrVolumeMany)
		w.refuses(t, removeVolume(5, 2), api.ErrTenantNone)
		w.refuses(t, removeVolume(4, 2), api.ErrVolumeNone)
		w.refuses(t, charge(5, 0), api.ErrTenantNone)
		w.refuses(t, charge(4, -301), api.ErrTenantCharge)
		w.refuses(t, charge(4, 1), api.ErrTenantQuota)
		w.refuses(t, charge(9, 1), api.ErrArg)
	})
	w.abort(t)
	w.tells(t, sample())
	// In the next one there is room.
	w.begin(t)
	w.does(t, charge(4, 0))
	w.dirty(t, 22)
}

// All eight pages, and eight sectors of others, are what one transaction takes.
func TestR4AllPagesInOneTransaction(t *testing.T) {
	w := made(t, 8, room, state{})
	w.begin(t)
	w.write(t, nobodys(8)...)
	var m state
	for k := 1; k <= 8; k++ {
		m = w.follows(t, add(k, k), m)
	}
	answers(t, "Write", w.p.Write(100, text(1)), api.ErrPoolFull)
	for k := 1; k <= 8; k++ {
		m = w.follows(t, charge(k, k), m)
		m = w.follows(t, addVolume(k, k, k), m)
	}
	w.commit(t)
	w.tells(t, m)
	opened(t, w.d, 0, room).tells(t, m)
}

// Of a pool that is lost nothing is told any more, not even what was at hand or written, until all is opened anew.
func TestR3OfALostPool(t *testing.T) {
	for _, keep := range []int{0, 8, 64} {
		w := made(t, keep, room, sample())
		w.begin(t)
		w.does(t, add(2, 6))
		w.lose(t)
		dead := func() {
			for k := 1; k <= 8; k++ {
				for _, c := range everyCall(k) {
					w.refuses(t, c, api.ErrDead)
				}
			}
		}
		dead()
		w.dirty(t, 20)
		answers(t, "Crash", w.d.Crash(nil), api.OK)
		dead()
		w.abort(t)
		for k := 1; k <= 8; k++ {
			for _, c := range everyCall(k) {
				want := api.ErrDead
				if c.changes() {
					want = api.ErrPoolNone
				}
				w.refuses(t, c, want)
			}
		}
		opened(t, w.d, keep, room).tells(t, sample())
	}
}

// Each call finds by itself that the disk is dead.
func TestR3EachCallOfADeadDisk(t *testing.T) {
	for k := 1; k <= 8; k++ {
		for n := range everyCall(k) {
			w := made(t, 0, room, sample())
			w.begin(t)
			w.kill(t)
			w.refuses(t, everyCall(k)[n], api.ErrDead)
			// From then on the pool is lost.
			answers(t, "Crash", w.d.Crash(nil), api.OK)
			for _, c := range everyCall(k) {
				w.refuses(t, c, api.ErrDead)
			}
			w.dirty(t)
		}
	}
}
