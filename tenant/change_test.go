package tenant_test

import (
	"math"
	"math/rand"
	"slices"
	"testing"

	"strongbox/api"
)

func TestT4AddOfEachTenant(t *testing.T) {
	for number := 1; number <= 8; number++ {
		for _, quota := range []int{0, 1, 55, 56, 57, 255, 256, 500, 65535} {
			w := made(t, 4, room, sample())
			w.begin(t)
			m := sample()
			now := w.follows(t, add(number, quota), m)
			w.tells(t, now)
			w.sees(t, now)
			if len(now) == len(m) {
				w.dirty(t)
			} else {
				w.dirty(t, w.sector(number))
			}
		}
	}
}

func TestT4AddWithinTheCapacity(t *testing.T) {
	for _, capacity := range []int{0, 1, 83, 255, 256, 1023, 1024} {
		for _, promised := range []int{0, 1, capacity / 2, capacity - 1, capacity} {
			if promised < 0 || promised > capacity {
				continue
			}
			rest := capacity - promised
			w := made(t, 4, capacity, state{one(7, promised, 0)})
			w.begin(t)
			for _, more := range []int{1, 2, 256, 65535 - rest} {
				w.unchanged(t, func() { w.refuses(t, add(3, rest+more), api.ErrTenantRoom) })
			}
			w.does(t, add(3, rest))
			w.tells(t, state{one(3, rest, 0), one(7, promised, 0)})
			w.is(t, left(), answer{number: 0})
			w.refuses(t, add(1, 1), api.ErrTenantRoom)
			w.does(t, add(1, 0))
			w.does(t, remove(3))
			w.is(t, left(), answer{number: rest})
			w.does(t, add(3, rest))
		}
	}
}

// One who is there stays as they are; that is told ahead of what is left.
func TestT4AddTwice(t *testing.T) {
	w := made(t, 4, room, sample())
	w.begin(t)
	for _, y := range sample() {
		w.unchanged(t, func() {
			for _, quota := range []int{0, 1, y.Quota, 56, 57, 65535} {
				w.refuses(t, add(y.Number, quota), api.ErrTenantTwice)
			}
		})
	}
}

// One who comes anew has nothing of what was there ahead of that.
func TestT4RemoveAndAddAgain(t *testing.T) {
	for number := 1; number <= 8; number++ {
		w := made(t, 4, 100, state{one(number, 90, 77)})
		w.begin(t)
		w.refuses(t, add(number, 5), api.ErrTenantTwice)
		w.does(t, remove(number))
		w.dirty(t, w.sector(number))
		w.tells(t, state{})
		w.sees(t, state{})
		w.refuses(t, remove(number), api.ErrTenantNone)
		w.does(t, add(number, 100))
		w.tells(t, state{one(number, 100, 0)})
		w.sees(t, state{one(number, 100, 0)})
		w.dirty(t, w.sector(number))
	}
}

func TestT4RemoveOfOneWithVolumes(t *testing.T) {
	for volumes := range 9 {
		y := one(5, 10, 4)
		for k := range volumes {
			y.Volumes = append(y.Volumes, api.Volume{Number: 3 * k, Root: k})
		}
		w := made(t, 4, room, state{y, one(6, 1, 1)})
		w.begin(t)
		for k := range volumes {
			w.unchanged(t, func() { w.refuses(t, remove(5), api.ErrTenantUsed) })
			w.does(t, removeVolume(5, 3*k))
		}
		w.does(t, remove(5))
		w.dirty(t, 23)
		w.tells(t, state{one(6, 1, 1)})
		w.sees(t, state{one(6, 1, 1)})
	}
}

func TestT4NobodyIsRemoved(t *testing.T) {
	w := made(t, 4, room, sample())
	w.begin(t)
	w.unchanged(t, func() {
		for _, number := range []int{2, 5, 7} {
			w.refuses(t, remove(number), api.ErrTenantNone)
			w.refuses(t, addVolume(number, 5, 5), api.ErrTenantNone)
			w.refuses(t, removeVolume(number, 5), api.ErrTenantNone)
			for _, more := range []int{0, 1, -1, math.MaxInt, math.MinInt} {
				w.refuses(t, charge(number, more), api.ErrTenantNone)
			}
		}
	})
}

// All eight come and go, in many orders.
func TestT4AllEight(t *testing.T) {
	for seed := range int64(10) {
		r := rand.New(rand.NewSource(seed))
		w := made(t, 8, 80, state{})
		w.begin(t)
		var m state
		for _, k := range r.Perm(8) {
			m = w.follows(t, add(k+1, 10), m)
			w.tells(t, m)
		}
		w.is(t, left(), answer{number: 0})
		w.sees(t, m)
		w.dirty(t, from(19, 8)...)
		for _, k := range r.Perm(8) {
			m = w.follows(t, remove(k+1), m)
			w.tells(t, m)
		}
		w.sees(t, state{})
	}
}

// Each volume comes among those that are there, by rising numbers.
func TestT6AddVolumeOfEachNumber(t *testing.T) {
	for _, y := range []api.Tenant{one(2, 1, 1), one(2, 1, 1, 50, 9), one(2, 1, 1, 0, 0, 99, 1), one(2, 9, 8, 3, 0, 13, 1, 23, 2, 33, 3, 43, 4, 53, 5, 63, 6)} {
		for volume := range 100 {
			m := state{one(1, 5, 5, 7, 7), y, one(3, 0, 0)}
			w := made(t, 8, room, m)
			w.begin(t)
			now := w.follows(t, addVolume(2, volume, 1023-volume), m)
			w.follows(t, get(2), now)
			w.sees(t, now)
			if len(now.of(2).Volumes) == len(y.Volumes) {
				w.dirty(t)
			} else {
				w.dirty(t, 20)
			}
			// And goes.
			if now = w.follows(t, removeVolume(2, volume), now); volume%10 == 5 {
				w.tells(t, now)
			}
			w.sees(t, now)
			w.dirty(t, 20)
			w.refuses(t, removeVolume(2, volume), api.ErrVolumeNone)
		}
	}
}

func TestT6RootsAreWhatTheyAre(t *testing.T) {
	w := made(t, 8, room, state{one(2, 0, 0)})
	w.begin(t)
	for place := range 1024 {
		w.does(t, addVolume(2, 42, place))
		w.is(t, root(2, 42), answer{number: place})
		w.does(t, removeVolume(2, 42))
	}
}

// Two volumes may have one root: nobody looks.
func TestT6TwoVolumesMayHaveOneRoot(t *testing.T) {
	w := made(t, 8, room, state{one(2, 0, 0), one(3, 0, 0)})
	w.begin(t)
	m := state{one(2, 0, 0), one(3, 0, 0)}
	for _, c := range []call{addVolume(2, 1, 7), addVolume(2, 0, 7), addVolume(3, 1, 7), addVolume(3, 0, 0), addVolume(3, 2, 0)} {
		w.does(t, c)
		_, m = m.asked(c, room)
		w.tells(t, m)
	}
	w.tells(t, state{one(2, 0, 0, 0, 7, 1, 7), one(3, 0, 0, 0, 0, 1, 7, 2, 0)})
}

func TestT6AVolumeTwice(t *testing.T) {
	w := made(t, 8, room, sample())
	w.begin(t)
	for _, y := range sample() {
		for _, v := range y.Volumes {
			w.unchanged(t, func() {
				for _, place := range []int{v.Root, 0, 1023} {
					w.refuses(t, addVolume(y.Number, v.Number, place), api.ErrVolumeTwice)
				}
			})
		}
	}
}

// A tenant with none, one, seven, eight and nine volumes, which come and go in many orders.
func TestT6AtMostEightVolumes(t *testing.T) {
	for seed := range int64(20) {
		r := rand.New(rand.NewSource(seed))
		numbers := r.Perm(100)
		m := state{one(4, 5, 2)}
		w := made(t, 8, room, m)
		w.begin(t)
		for n, volume := range numbers[:8] {
			if l := m.of(4).Volumes; len(l) != n {
				t.Fatalf("%d volumes, want %d", len(l), n)
			}
			w.does(t, addVolume(4, volume, r.Intn(1024)))
			y, e := w.x.Get(4)
			answers(t, "Get", e, api.OK)
			m = state{y}
			isRising := slices.IsSortedFunc(y.Volumes, func(a, b api.Volume) int { return a.Number - b.Number })
			if !isRising || !slices.ContainsFunc(y.Volumes, func(v api.Volume) bool { return v.Number == volume }) {
				t.Fatalf("the volumes are %v", y.Volumes)
			}
			w.tells(t, m)
			w.sees(t, m)
		}
		w.unchanged(t, func() {
			for _, volume := range numbers[8:] {
				w.refuses(t, addVolume(4, volume, 0), api.ErrVolumeMany)
			}
			// That one has it is told ahead of that.
			for _, volume := range numbers[:8] {
				w.refuses(t, addVolume(4, volume, 0), api.ErrVolumeTwice)
			}
		})
		for _, k := range r.Perm(8) {
			m = w.follows(t, removeVolume(4, numbers[k]), m)
			w.tells(t, m)
			w.sees(t, m)
			m = w.follows(t, addVolume(4, numbers[20+k], 5), m)
			w.refuses(t, addVolume(4, numbers[30], 5), api.ErrVolumeMany)
			m = w.follows(t, removeVolume(4, numbers[20+k]), m)
			m = w.follows(t, addVolume(4, numbers[40+k], 6), m)
			w.tells(t, m)
		}
		for k := range 8 {
			m = w.follows(t, removeVolume(4, numbers[40+k]), m)
		}
		w.tells(t, state{one(4, 5, 2)})
		w.sees(t, state{one(4, 5, 2)})
		w.does(t, remove(4))
	}
}

func TestT6NoSuchVolume(t *testing.T) {
	w := made(t, 8, room, sample())
	w.begin(t)
	w.unchanged(t, func() {
		for _, y := range sample() {
			for volume := range 100 {
				if !slices.ContainsFunc(y.Volumes, func(v api.Volume) bool { return v.Number == volume }) {
					w.refuses(t, removeVolume(y.Number, volume), api.ErrVolumeNone)
				}
			}
		}
	})
}

func TestT7ChargesWithinTheQuota(t *testing.T) {
	for _, quota := range []int{0, 1, 2, 255, 256, 1024} {
		for _, was := range []int{0, 1, quota / 2, quota - 1, quota} {
			if was < 0 || was > quota {
				continue
			}
			m := state{one(1, 0, 0), one(2, quota, was, 4, 4)}
			w := made(t, 8, 1024, m)
			w.begin(t)
			w.unchanged(t, func() {
				for _, more := range []int{-was - 1, -was - 2, -quota - 1, -65536, -1 << 32, math.MinInt, math.MinInt + 1, math.MinInt + was, math.MinInt + quota} {
					w.refuses(t, charge(2, more), api.ErrTenantCharge)
				}
				for _, more := range []int{quota - was + 1, quota - was + 2, quota + 1, 65536, 1 << 32, 1<<32 + 1, math.MaxInt, math.MaxInt - 1, math.MaxInt - was, math.MaxInt - quota} {
					w.refuses(t, charge(2, more), api.ErrTenantQuota)
				}
			})
			for _, to := range []int{was, 0, quota, quota / 3, was} {
				w.does(t, charge(2, to-m.of(2).Charge))
				m = m.with(one(2, quota, to, 4, 4))
				w.tells(t, m)
				w.sees(t, m)
				w.dirty(t, 20)
			}
		}
	}
}

// Every charge of a quota, one step up and one step down.
func TestT7StepByStep(t *testing.T) {
	w := made(t, 8, 300, state{one(8, 300, 0)})
	w.begin(t)
	for n := range 300 {
		w.does(t, charge(8, 1))
		if y, e := w.x.Get(8); y.Charge != n+1 || e != api.OK {
			t.Fatalf("Get = %v, %d, want a charge of %d", y, e, n+1)
		}
	}
	w.refuses(t, charge(8, 1), api.ErrTenantQuota)
	for range 300 {
		w.does(t, charge(8, -1))
	}
	w.refuses(t, charge(8, -1), api.ErrTenantCharge)
	w.tells(t, state{one(8, 300, 0)})
}

// A quota above the capacity, which others have promised, is charged up to its end.
func TestT7TheGreatestQuota(t *testing.T) {
	w := made(t, 8, 1024, state{})
	w.begin(t)
	answers(t, "Write", w.p.Write(19, page(t, 5, 1, bodyOf(one(1, 65535, 1)))), api.OK)
	w.refuses(t, charge(1, 65535), api.ErrTenantQuota)
	w.does(t, charge(1, 65534))
	w.is(t, get(1), answer{tenant: one(1, 65535, 65535)})
	w.refuses(t, charge(1, 1), api.ErrTenantQuota)
	w.refuses(t, charge(1, -65536), api.ErrTenantCharge)
	w.does(t, charge(1, -65535))
	w.sees(t, state{one(1, 65535, 0)})
}

// A call that is OK writes the tenant's page, and no other sector, also where its bytes are as they were.
func TestT8WhatIsWritten(t *testing.T) {
	for _, c := range []call{
		add(2, 0), add(2, 56), add(7, 1), remove(3), addVolume(1, 3, 3), addVolume(3, 0, 0), addVolume(8, 99, 0),
		removeVolume(6, 99), removeVolume(4, 0), removeVolume(1, 2), charge(1, 80), charge(1, -3), charge(4, -300),
		charge(1, 0), charge(3, 0), charge(4, 0), charge(6, 0), charge(8, 0),
	} {
		w := made(t, 4, room, sample())
		was := w.d.Image()
		w.begin(t)
		now := w.follows(t, c, sample())
		w.dirty(t, w.sector(c.tenant))
		w.sees(t, now)
		for i := 27; i < 128; i++ {
			w.has(t, i, was[i])
		}
		w.commit(t)
		image := w.d.Image()
		if !slices.Equal(image[19:27], now.pages(t)) || !slices.Equal(image[27:], was[27:]) {
			t.Fatalf("%v has written other sectors", c)
		}
	}
}

// The bytes of a page, as the chapter's words tell them.
func TestT8TheBytesOfAPage(t *testing.T) {
	w := made(t, 4, 1024, state{})
	w.begin(t)
	w.does(t, add(3, 1000))
	w.has(t, 21, page(t, 5, 3, "\x01\x00\x00\x03\xe8"+noughts(45)))
	w.does(t, charge(3, 258))
	w.has(t, 21, page(t, 5, 3, "\x01\x00\x00\x03\xe8\x00\x00\x01\x02"+noughts(41)))
	w.does(t, addVolume(3, 99, 1023))
	w.has(t, 21, page(t, 5, 3, "\x01\x00\x00\x03\xe8\x00\x00\x01\x02\x01\x63\x00\x00\x03\xff"+noughts(35)))
	w.does(t, addVolume(3, 0, 0))
	w.has(t, 21, page(t, 5, 3, "\x01\x00\x00\x03\xe8\x00\x00\x01\x02\x02\x00\x00\x00\x00\x00\x63\x00\x00\x03\xff"+noughts(30)))
	w.does(t, removeVolume(3, 99))
	w.has(t, 21, page(t, 5, 3, "\x01\x00\x00\x03\xe8\x00\x00\x01\x02\x01\x00\x00\x00\x00\x00"+noughts(35)))
	w.does(t, removeVolume(3, 0))
	w.does(t, remove(3))
	w.has(t, 21, page(t, 5, 3, noughts(50)))
}

// Whatever of one tenant is changed, no other one is.
func TestT8OneTenantChangesNoOther(t *testing.T) {
	for number := 1; number <= 8; number++ {
		w := made(t, 4, room, sample())
		w.begin(t)
		m := sample()
		for _, c := range []call{add(number, 5), charge(number, 5), charge(number, -1), addVolume(number, 77, 9), addVolume(number, 78, 9), removeVolume(number, 77), removeVolume(number, 78), remove(number)} {
			m = w.follows(t, c, m)
			w.tells(t, m)
			w.sees(t, m)
		}
		w.dirty(t, w.sector(number))
	}
}
