package tenant_test

import (
	"math"
	"slices"
	"testing"

	"strongbox/api"
)

// noTenants are numbers that no tenant has.
func noTenants() []int {
	return []int{0, 9, -1, 10, -8, 16, 256, 257, 1<<32 + 1, math.MaxInt, math.MinInt}
}

// noVolumes are numbers that no volume has.
func noVolumes() []int {
	return []int{-1, 100, -2, 101, -99, 255, 256, 1 << 32, math.MaxInt, math.MinInt}
}

// noRoots are places that no root has.
func noRoots() []int {
	return []int{-1, 1024, -2, 1025, -1023, 65536, 1 << 32, math.MaxInt, math.MinInt}
}

// noQuotas are what may not be promised.
func noQuotas() []int {
	return []int{-1, 65536, -2, 65537, -65535, 1 << 32, math.MaxInt, math.MinInt}
}

// The examples of the chapter.
func TestT4Examples(t *testing.T) {
	w := made(t, 4, 83, state{})
	w.begin(t)
	w.does(t, add(1, 83))
	w.refuses(t, add(2, 1), api.ErrTenantRoom)
	w.does(t, add(2, 0))
	w.is(t, left(), answer{number: 0})
	w.refuses(t, charge(1, 84), api.ErrTenantQuota)
	w.does(t, charge(1, 3))
	w.refuses(t, charge(1, -4), api.ErrTenantCharge)
	w.does(t, charge(2, 0))
	w.does(t, addVolume(1, 5, 0))
	w.does(t, addVolume(1, 2, 7))
	w.is(t, get(1), answer{tenant: api.Tenant{Number: 1, Quota: 83, Charge: 3, Volumes: []api.Volume{{Number: 2, Root: 7}, {Number: 5, Root: 0}}}})
	w.refuses(t, remove(1), api.ErrTenantUsed)
	w.refuses(t, add(9, 0), api.ErrArg)
	w.tells(t, state{one(1, 83, 3, 2, 7, 5, 0), one(2, 0, 0)})
	w.dirty(t, 19, 20)
}

func TestT5GetOfEachTenant(t *testing.T) {
	for number := 1; number <= 8; number++ {
		y := one(number, 65, 64, 3, 4, 98, 1000)
		w := made(t, 2, 100, state{y})
		for k := 1; k <= 8; k++ {
			if k == number {
				w.is(t, get(k), answer{tenant: y})
			} else {
				w.refuses(t, get(k), api.ErrTenantNone)
			}
		}
	}
}

// Any eight of them may be there.
func TestT5ListAndLeftOfEachChoice(t *testing.T) {
	for choice := range 256 {
		var m state
		sum := 0
		for k := range 8 {
			if choice>>k&1 == 1 {
				m = append(m, one(k+1, 1<<k, 0))
				sum += 1 << k
			}
		}
		w := made(t, 0, 300, m)
		w.is(t, list(), answer{list: m.numbers()})
		w.is(t, left(), answer{number: 300 - sum})
		w.is(t, left(), answer{number: 300 - choice})
	}
}

// A charge and volumes have no part in what is left.
func TestT5LeftIsTheCapacityLessTheQuotas(t *testing.T) {
	for _, y := range []api.Tenant{one(3, 7, 0), one(3, 7, 7), one(3, 7, 3, 5, 6, 7, 8)} {
		made(t, 0, 50, state{y}).is(t, left(), answer{number: 43})
		made(t, 0, 7, state{y}).is(t, left(), answer{number: 0})
	}
}

func TestT6RootOfEachVolume(t *testing.T) {
	for k, y := range sample() {
		w := made(t, 8, room, sample())
		roots := map[int]int{}
		for _, v := range y.Volumes {
			roots[v.Number] = v.Root
		}
		for volume := range 100 {
			place, has := roots[volume]
			if has {
				w.is(t, root(y.Number, volume), answer{number: place})
			} else {
				w.refuses(t, root(y.Number, volume), api.ErrVolumeNone)
			}
		}
		if len(roots) != []int{2, 0, 8, 1, 7}[k] {
			t.Fatalf("%d volumes", len(roots))
		}
	}
}

func TestT6RootOfNobody(t *testing.T) {
	w := made(t, 8, room, sample())
	for _, number := range []int{2, 5, 7} {
		for _, volume := range []int{0, 5, 50, 99} {
			w.refuses(t, root(number, volume), api.ErrTenantNone)
		}
	}
}

func TestT3NumbersThatMayNotBe(t *testing.T) {
	for _, isOpen := range []bool{false, true} {
		w := made(t, 4, room, sample())
		if isOpen {
			w.begin(t)
		}
		w.unchanged(t, func() { w.refusesNumbers(t) })
		// Also of a transaction that is full, and of a pool that is lost.
		if isOpen {
			w.write(t, nobodys(16)...)
			w.unchanged(t, func() { w.refusesNumbers(t) })
		}
		w.lose(t)
		w.refusesNumbers(t)
	}
}

// refusesNumbers asks each call with each number that may not be.
func (w *parts) refusesNumbers(t *testing.T) {
	t.Helper()
	for _, k := range noTenants() {
		for _, c := range []call{add(k, 0), add(k, 65535), add(k, 65536), remove(k), get(k), addVolume(k, 0, 0), addVolume(k, 100, 1024), removeVolume(k, 0), removeVolume(k, -1), root(k, 0), root(k, 100), charge(k, 0), charge(k, math.MaxInt), charge(k, math.MinInt)} {
			w.refuses(t, c, api.ErrArg)
		}
	}
	// Of one who is there, and of one who is not.
	for _, k := range []int{1, 2, 3, 4, 8} {
		for _, n := range noQuotas() {
			w.refuses(t, add(k, n), api.ErrArg)
		}
		for _, n := range noVolumes() {
			w.refuses(t, addVolume(k, n, 0), api.ErrArg)
			w.refuses(t, addVolume(k, n, 1024), api.ErrArg)
			w.refuses(t, removeVolume(k, n), api.ErrArg)
			w.refuses(t, root(k, n), api.ErrArg)
		}
		for _, n := range noRoots() {
			w.refuses(t, addVolume(k, 0, n), api.ErrArg)
			w.refuses(t, addVolume(k, 50, n), api.ErrArg)
		}
	}
}

func TestT5TellingNeedsNoTransactionAndChangesNothing(t *testing.T) {
	w := made(t, 2, room, sample())
	for range 2 {
		w.unchanged(t, func() { w.tells(t, sample()) })
		answers(t, "Abort", w.p.Abort(), api.ErrPoolNone)
	}
	w.begin(t)
	w.write(t, nobodys(16)...)
	w.unchanged(t, func() { w.tells(t, sample()) })
	answers(t, "Begin", w.p.Begin(), api.ErrPoolOpen)
	if len(w.d.Trace()) != 0 {
		t.Fatalf("acts %v", w.d.Trace())
	}
}

func TestR2ListsThatComeOutAreTheCallers(t *testing.T) {
	w := made(t, 8, room, sample())
	for _, isOpen := range []bool{false, true} {
		if isOpen {
			w.begin(t)
			w.does(t, charge(4, 0))
		}
		for _, y := range sample() {
			a, _ := w.x.Get(y.Number)
			b, _ := w.x.Get(y.Number)
			for k := range a.Volumes {
				a.Volumes[k] = api.Volume{Number: 1000, Root: 1000}
			}
			for k := range a.Volumes[:cap(a.Volumes)] {
				a.Volumes[:cap(a.Volumes)][k] = api.Volume{Number: 2000, Root: 2000}
			}
			if !slices.Equal(b.Volumes, y.Volumes) {
				t.Fatalf("the volumes of %d are %v", y.Number, b.Volumes)
			}
		}
		a, _ := w.x.List()
		b, _ := w.x.List()
		for k := range a[:cap(a)] {
			a[:cap(a)][k] = 99
		}
		if !slices.Equal(b, sample().numbers()) {
			t.Fatalf("List = %v", b)
		}
		w.tells(t, sample())
		w.sees(t, sample())
	}
}

// What is told within a transaction is what that sees, by whichever table over the same pages.
func TestR4WhatIsToldIsWhatTheTransactionSees(t *testing.T) {
	for _, keep := range []int{0, 3, 64} {
		w := made(t, keep, room, sample())
		v := over(t, w.d, w.p, 19, room)
		m := sample()
		w.begin(t)
		for _, c := range []call{add(2, 56), charge(2, 55), addVolume(2, 9, 9), removeVolume(6, 99), remove(6), add(6, 21), add(7, 0), charge(4, -300), removeVolume(4, 0), addVolume(4, 2, 2)} {
			m = w.follows(t, c, m)
			w, v = v, w
			v.tells(t, m)
			w.tells(t, m)
			w.sees(t, m)
		}
		w.abort(t)
		v.tells(t, sample())
		w.tells(t, sample())
	}
}

// Pages that others lay down in the transaction are told as they stand.
func TestR4PagesThatOthersLayDownAreTold(t *testing.T) {
	w := made(t, 8, 100, state{})
	w.begin(t)
	for _, m := range []state{{one(1, 50, 50, 0, 0)}, sample(), {one(8, 65535, 65535)}, {}} {
		for k, s := range m.pages(t) {
			answers(t, "Write", w.p.Write(19+k, s), api.OK)
		}
		// More than the capacity may be promised by others: then nothing is left, and less than that.
		w.tells(t, m)
		if m.quotas() > 100 {
			for number := 1; number <= 8; number++ {
				w.follows(t, add(number, 0), m)
			}
		}
	}
}

// Two tables of two capacities over the same pages: each goes by its own.
func TestT8TablesOfTwoCapacities(t *testing.T) {
	few := made(t, 8, 10, state{})
	many := over(t, few.d, few.p, 19, 1000)
	few.begin(t)
	few.does(t, add(1, 10))
	many.does(t, add(2, 500))
	m := state{one(1, 10, 0), one(2, 500, 0)}
	few.tells(t, m)
	many.tells(t, m)
	few.is(t, left(), answer{number: -500})
	many.is(t, left(), answer{number: 490})
	few.refuses(t, add(3, 0), api.ErrTenantRoom)
	few.refuses(t, add(2, 0), api.ErrTenantTwice)
	many.refuses(t, add(3, 491), api.ErrTenantRoom)
	many.does(t, add(3, 490))
	few.does(t, charge(3, 490))
	few.does(t, remove(2))
	few.does(t, remove(3))
	few.refuses(t, add(4, 1), api.ErrTenantRoom)
	few.does(t, add(4, 0))
	few.tells(t, state{one(1, 10, 0), one(4, 0, 0)})
}
