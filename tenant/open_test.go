package tenant_test

import (
	"math"
	"math/rand"
	"slices"
	"testing"

	"strongbox/api"
	"strongbox/tenant"
)

func TestT2OpenFindsATable(t *testing.T) {
	for _, keep := range []int{0, 1, 7, 8, 64} {
		for _, m := range []state{{}, sample(), {one(5, 7, 7)}} {
			w := made(t, keep, room, m)
			w.unchanged(t, func() { w.tells(t, m) })
		}
	}
}

func TestT2OpenRefusesCapacities(t *testing.T) {
	p := made(t, 2, 0, state{}).p
	for _, capacity := range []int{-1, 1025, -2, 1026, 2048, -1024, 1 << 16, 1 << 32, math.MaxInt, math.MinInt, math.MaxInt - 1, math.MinInt + 1} {
		refused(t, p, 19, capacity, api.ErrArg)
		// Also where no page stands.
		refused(t, p, 40, capacity, api.ErrArg)
		refused(t, p, 121, capacity, api.ErrArg)
	}
	for capacity := range 1025 {
		over(t, nil, p, 19, capacity).is(t, left(), answer{number: capacity})
	}
}

func TestT2OpenRefusesPlacesThatAreNotOnTheDisk(t *testing.T) {
	for _, size := range []int{128, 129, 1024} {
		// The pages stand in the last eight sectors.
		d := loaded(t, image(t, size, size-8, sample().pages(t)...))
		p := pooled(t, d, 2)
		over(t, d, p, size-8, room).tells(t, sample())
		for _, at := range []int{-1, -2, -8, -9, -128, size - 7, size - 6, size - 1, size, size + 1, 1 << 32, math.MinInt, math.MinInt + 7, math.MinInt + 8, math.MaxInt, math.MaxInt - 7, math.MaxInt - 8, math.MaxInt - 9} {
			refused(t, p, at, room, api.ErrArg)
			refused(t, p, at, -1, api.ErrArg)
			refused(t, p, at, 1025, api.ErrArg)
		}
		for _, at := range []int{0, 1, 18, 19, size - 16, size - 15, size - 9} {
			refused(t, p, at, room, api.ErrTenantForm)
		}
	}
}

func TestT2OpenOfNoPool(t *testing.T) {
	for _, at := range []int{-8, -1, 0, 19} {
		refused(t, nil, at, 83, api.ErrArg)
		refused(t, nil, at, -1, api.ErrArg)
	}
}

// That numbers may not be is told ahead of what is wrong with the disk, and what the pages hold is not looked at.
func TestT2WhatMayNotBeIsToldFirst(t *testing.T) {
	w := made(t, 2, room, sample())
	w.lose(t)
	refused(t, w.p, -1, room, api.ErrArg)
	refused(t, w.p, 121, room, api.ErrArg)
	refused(t, w.p, 19, -1, api.ErrArg)
	refused(t, w.p, 19, 1025, api.ErrArg)
	refused(t, w.p, 19, 1024, api.ErrDead)
	refused(t, w.p, 0, 0, api.ErrDead)
	refused(t, w.p, 120, 0, api.ErrDead)
}

// A table stands wherever its pages do; below the sector 19 it can be looked at alone, for the pool writes nothing there.
func TestT2TablesAtEachPlace(t *testing.T) {
	for at := 2; at <= 120; at++ {
		d := loaded(t, image(t, 128, at, sample().pages(t)...))
		w := over(t, d, pooled(t, d, 8), at, room)
		w.tells(t, sample())
		w.begin(t)
		for k := 1; k <= 8; k++ {
			i := w.sector(k)
			if i < 19 {
				w.unchanged(t, func() {
					for _, c := range []call{add(k, 0), remove(k), charge(k, 0), addVolume(k, 77, 0), removeVolume(k, 50)} {
						want, _ := sample().asked(c, room)
						if want.e == api.OK {
							want.e = api.ErrJournalPlace
						}
						w.is(t, c, want)
					}
				})
				continue
			}
			w.follows(t, add(k, 0), sample())
			w.does(t, charge(k, 0))
		}
		w.dirty(t, slices.DeleteFunc(from(at, 8), func(i int) bool { return i < 19 })...)
	}
}

// fault is a page that is not as the chapter's words say.
type fault struct {
	what   string
	sector string
}

// faults are pages in the stead of that of a tenant.
func faults(t *testing.T, number int) []fault {
	t.Helper()
	right := bodyOf(one(number, 40, 5, 2, 7, 50, 8))
	full := one(number, 9, 0, 10, 1, 20, 2, 30, 3, 40, 4, 50, 5, 60, 6, 70, 7, 80, 8)
	l := []fault{
		{"no page", text(5)},
		{"noughts", noughts(256)},
		{"a number of another tenant", page(t, 5, number%8+1, right)},
		{"the number 0", page(t, 5, 0, right)},
		{"the number 9", page(t, 5, 9, right)},
		{"a number that is 256 more", page(t, 5, number+256, right)},
		{"a number of 4294967295", page(t, 5, 4294967295, noughts(50))},
		{"49 bytes", page(t, 5, number, right[:49])},
		{"51 bytes", page(t, 5, number, right+"\x00")},
		{"49 noughts", page(t, 5, number, noughts(49))},
		{"51 noughts", page(t, 5, number, noughts(51))},
		{"no bytes", page(t, 5, number, "")},
		{"244 noughts", page(t, 5, number, noughts(244))},
		{"45 bytes of one with no volume", page(t, 5, number, bodyOf(one(number, 1, 1))[:45])},
		{"10 bytes of one with no volume", page(t, 5, number, bodyOf(one(number, 1, 1))[:10])},
	}
	for _, kind := range []int{0, 1, 2, 3, 4, 6, 7, 8, 255} {
		l = append(l, fault{"another kind", page(t, kind, number, right)}, fault{"another kind of nobody", page(t, kind, number, noughts(50))})
	}
	body := func(what string, y api.Tenant) { l = append(l, fault{what, page(t, 5, number, bodyOf(y))}) }
	at := func(what, body string, i int, b byte) {
		l = append(l, fault{what, page(t, 5, number, body[:i]+string([]byte{b})+body[i+1:])})
	}
	for _, b := range []byte{2, 3, 128, 129, 254, 255} {
		at("another first byte", right, 0, b)
		at("another first byte of nobody", noughts(50), 0, b)
	}
	at("a first byte of 0", right, 0, 0)
	body("a charge above its quota", one(number, 40, 41))
	body("a charge above no quota", one(number, 0, 1))
	body("a charge of the greatest number", one(number, 40, 4294967295))
	body("a quota of 65536", one(number, 65536, 0))
	body("a quota of 65536, charged", one(number, 65536, 65536))
	body("a quota of the greatest number", one(number, 4294967295, 0))
	body("the volume 100", one(number, 40, 5, 2, 7, 100, 8))
	body("the volume 255", one(number, 40, 5, 255, 8))
	body("the volume 100 first", one(number, 40, 5, 100, 7, 50, 8))
	body("the root 1024", one(number, 40, 5, 2, 1024, 50, 8))
	body("the root 1024 of the last", one(number, 40, 5, 2, 7, 50, 1024))
	body("a root of the greatest number", one(number, 40, 5, 2, 4294967295))
	body("a volume twice", one(number, 40, 5, 50, 7, 50, 8))
	body("a volume twice with one root", one(number, 40, 5, 0, 0, 0, 0))
	body("volumes that fall", one(number, 40, 5, 50, 7, 2, 8))
	body("volumes that fall behind the second", one(number, 40, 5, 2, 7, 50, 8, 49, 9))
	for _, k := range []int{9, 10, 16, 128, 255} {
		at("too many volumes", bodyOf(full), 9, byte(k))
		at("too many volumes of noughts", bodyOf(one(number, 40, 5)), 9, byte(k))
	}
	for k := range 8 {
		y := full
		y.Volumes = slices.Clone(full.Volumes)
		y.Volumes[k].Root = 1024
		body("a root of one of eight", y)
		y.Volumes[k] = api.Volume{Number: 100, Root: 0}
		body("a number of one of eight", y)
		if k > 0 {
			y.Volumes[k] = y.Volumes[k-1]
			body("one of eight twice", y)
		}
		at("a volume more than are counted", bodyOf(full), 9, byte(k))
	}
	for i := 1; i < 50; i++ {
		at("noughts but for one byte", noughts(50), i, 1)
		at("noughts but for one byte", noughts(50), i, 128)
	}
	for i := 20; i < 50; i++ {
		at("a byte that is not 0 behind the last volume", right, i, 1)
	}
	for i := 10; i < 50; i++ {
		at("a byte that is not 0 behind no volume", bodyOf(one(number, 40, 5)), i, 200)
	}
	s := page(t, 5, number, right)
	for i := range s {
		l = append(l, fault{"a bit that is turned", s[:i] + string([]byte{s[i] ^ 1<<(i%8)}) + s[i+1:]})
	}
	return l
}

func TestT2OpenRefusesPagesThatAreNotRight(t *testing.T) {
	for number := 1; number <= 8; number++ {
		for _, f := range faults(t, number) {
			l := sample().pages(t)
			l[number-1] = f.sector
			p := pooled(t, loaded(t, image(t, 128, 19, l...)), 2)
			for _, capacity := range []int{1024, room} {
				if x, e := tenant.Open(p, 19, capacity); x != nil || e != api.ErrTenantForm {
					t.Fatalf("Open with %s = %v, %d, want ErrTenantForm", f.what, x, e)
				}
			}
		}
	}
}

// Behind Open, too, a page that others have laid there is told as what it is, and nothing is written over it.
func TestR5PagesThatOthersLayDownBehindOpen(t *testing.T) {
	for _, number := range []int{1, 4, 8} {
		for _, f := range faults(t, number) {
			w := made(t, 8, room, sample())
			w.begin(t)
			answers(t, "Write", w.p.Write(w.sector(number), f.sector), api.OK)
			for _, c := range everyCall(number) {
				w.refuses(t, c, api.ErrTenantForm)
			}
			w.dirty(t, w.sector(number))
			w.has(t, w.sector(number), f.sector)
			w.abort(t)
			w.is(t, get(number), answer{tenant: sample().of(number)})
		}
	}
}

// everyCall is each of a table's, of numbers that may be.
func everyCall(number int) []call {
	return []call{
		add(number, 1), remove(number), get(number), list(), left(),
		addVolume(number, 77, 9), removeVolume(number, 50), root(number, 50), charge(number, 0),
	}
}

// Page by page: what is wrong with one is told ahead of what is wrong with those behind it.
func TestT2WhichPageIsToldFirst(t *testing.T) {
	for number := 1; number <= 8; number++ {
		for _, isRight := range []bool{false, true} {
			l := sample().pages(t)
			if !isRight {
				l[number-1] = text(1)
			}
			// The pages up to this one are at hand, all others cannot be read.
			w := &parts{d: loaded(t, image(t, 128, 19, l...)), at: 19}
			w.p = pooled(t, w.d, number)
			for i := range number {
				if _, e := w.p.Read(19 + i); e != api.OK {
					t.Fatalf("Read = %d", e)
				}
			}
			w.kill(t)
			switch {
			case !isRight:
				refused(t, w.p, 19, room, api.ErrTenantForm)
			case number < 8:
				// The capacity, which is too small, is told behind all pages.
				refused(t, w.p, 19, 0, api.ErrDead)
				refused(t, w.p, 19, room, api.ErrDead)
			default:
				refused(t, w.p, 19, 0, api.ErrTenantForm)
				over(t, w.d, w.p, 19, room)
			}
		}
	}
}

// A page that cannot be read is told ahead of one behind it that is not right.
func TestT2ADeadDiskIsToldAheadOfPagesBehind(t *testing.T) {
	l := sample().pages(t)
	l[7] = text(1)
	w := &parts{d: loaded(t, image(t, 128, 19, l...)), at: 19}
	w.p = pooled(t, w.d, 1)
	if _, e := w.p.Read(26); e != api.OK {
		t.Fatalf("Read = %d", e)
	}
	w.kill(t)
	refused(t, w.p, 19, room, api.ErrDead)
}

func TestT2QuotasTogetherAreNotAboveTheCapacity(t *testing.T) {
	for _, m := range []state{
		sample(),
		{one(1, 1, 0)}, {one(8, 1, 1)}, {one(3, 1024, 0)},
		{one(1, 128, 0), one(2, 128, 0), one(3, 128, 0), one(4, 128, 0), one(5, 128, 0), one(6, 128, 0), one(7, 128, 0), one(8, 128, 0)},
		{one(1, 0, 0), one(8, 0, 0)},
	} {
		p := pooled(t, loaded(t, image(t, 128, 19, m.pages(t)...)), 8)
		sum := m.quotas()
		for _, capacity := range []int{sum, min(1024, sum+1), 1024} {
			over(t, nil, p, 19, capacity).is(t, left(), answer{number: capacity - sum})
		}
		if sum > 0 {
			refused(t, p, 19, sum-1, api.ErrTenantForm)
			refused(t, p, 19, 0, api.ErrTenantForm)
		}
	}
	for _, m := range []state{
		{one(1, 65535, 0)}, {one(1, 1025, 0)}, {one(2, 1024, 0), one(3, 1, 0)},
		{one(1, 65535, 65535), one(2, 65535, 0), one(3, 65535, 0), one(4, 65535, 0), one(5, 65535, 0), one(6, 65535, 0), one(7, 65535, 0), one(8, 65535, 0)},
	} {
		refused(t, pooled(t, loaded(t, image(t, 128, 19, m.pages(t)...)), 8), 19, 1024, api.ErrTenantForm)
	}
}

// Each right page is taken, with all numbers at their ends.
func TestT2RightPages(t *testing.T) {
	for _, y := range []api.Tenant{
		one(0, 0, 0), one(0, 1024, 0), one(0, 1024, 1024), one(0, 1024, 1023), one(0, 256, 255),
		one(0, 1, 1, 0, 0), one(0, 1, 1, 99, 1023), one(0, 1, 1, 0, 1023, 99, 0),
		one(0, 1, 1, 0, 0, 1, 0), one(0, 1, 1, 98, 5, 99, 5),
		one(0, 0, 0, 0, 0, 1, 256, 2, 255, 3, 512, 4, 1, 5, 2, 6, 3, 7, 1023),
		one(0, 0, 0, 92, 0, 93, 0, 94, 0, 95, 0, 96, 0, 97, 0, 98, 0, 99, 0),
	} {
		for number := 1; number <= 8; number++ {
			y.Number = number
			w := made(t, 2, 1024, state{y})
			w.tells(t, state{y})
			w.begin(t)
			// A charge of nothing more leaves all bytes as they are.
			w.does(t, charge(number, 0))
			w.sees(t, state{y})
		}
	}
}

// isBody tells whether 50 bytes are those of a page, by the chapter's words.
func isBody(b []byte) bool {
	number := func(i int) int { return int(b[i])<<24 | int(b[i+1])<<16 | int(b[i+2])<<8 | int(b[i+3]) }
	if b[0] == 0 {
		return string(b) == noughts(50)
	}
	if b[0] != 1 || number(1) > 65535 || number(5) > number(1) || b[9] > 8 {
		return false
	}
	last := -1
	for k := range int(b[9]) {
		i := 10 + 5*k
		if b[i] > 99 || int(b[i]) <= last || number(i+1) > 1023 {
			return false
		}
		last = int(b[i])
	}
	end := 10 + 5*int(b[9])
	return string(b[end:]) == noughts(50-end)
}

// randomBody is one by chance: right, or nearly so.
func randomBody(r *rand.Rand) []byte {
	y := api.Tenant{Quota: r.Intn(1025)}
	y.Charge = r.Intn(y.Quota + 1)
	for _, n := range some(r, 100, 1)[:r.Intn(9)] {
		y.Volumes = append(y.Volumes, api.Volume{Number: n, Root: r.Intn(1024)})
	}
	b := []byte(bodyOf(y))
	for range r.Intn(3) {
		i := r.Intn(50)
		switch r.Intn(4) {
		case 0:
			b[i] = byte(r.Intn(256))
		case 1:
			b[i]++
		case 2:
			b[i]--
		default:
			b[9] = byte(r.Intn(10))
		}
	}
	return b
}

func TestT2BodiesByChance(t *testing.T) {
	r := rand.New(rand.NewSource(1))
	rights := 0
	for range 5000 {
		b, number := randomBody(r), 1+r.Intn(8)
		l := state{}.pages(t)
		l[number-1] = page(t, 5, number, string(b))
		d := loaded(t, image(t, 128, 19, l...))
		p := pooled(t, d, 0)
		quota := int(b[3])<<8 | int(b[4])
		if !isBody(b) || quota > 1024 {
			refused(t, p, 19, 1024, api.ErrTenantForm)
			continue
		}
		rights++
		w := over(t, d, p, 19, 1024)
		if b[0] == 0 {
			w.tells(t, state{})
			continue
		}
		y, e := w.x.Get(number)
		if e != api.OK || y.Number != number || bodyOf(y) != string(b) {
			t.Fatalf("Get(%d) = %v, %d, of %q", number, y, e, b)
		}
	}
	if rights < 1000 || rights > 4000 {
		t.Fatalf("%d are right", rights)
	}
}

func TestT2OpenOfADeadDisk(t *testing.T) {
	w := made(t, 0, room, sample())
	w.kill(t)
	for range 2 {
		refused(t, w.p, 19, room, api.ErrDead)
	}
	answers(t, "Crash", w.d.Crash(nil), api.OK)
	// Of a lost pool, until that is opened anew.
	refused(t, w.p, 19, room, api.ErrDead)
	opened(t, w.d, 0, room).tells(t, sample())
}

// Open sees the pages as the transaction does, and needs none.
func TestT2OpenInATransaction(t *testing.T) {
	w := made(t, 4, room, sample())
	w.begin(t)
	w.does(t, add(2, 56))
	m := sample().with(one(2, 56, 0))
	v := over(t, w.d, w.p, 19, room)
	v.tells(t, m)
	refused(t, w.p, 19, 499, api.ErrTenantForm)
	answers(t, "Write", w.p.Write(22, text(1)), api.OK)
	refused(t, w.p, 19, room, api.ErrTenantForm)
	w.abort(t)
	v.tells(t, sample())
	over(t, w.d, w.p, 19, 444).tells(t, sample())
}

func TestT2OpenChangesNothing(t *testing.T) {
	for _, isOpen := range []bool{false, true} {
		w := made(t, 4, room, sample())
		if isOpen {
			w.begin(t)
			w.write(t, 60)
		}
		w.unchanged(t, func() {
			over(t, w.d, w.p, 19, room)
			refused(t, w.p, 20, room, api.ErrTenantForm)
			refused(t, w.p, -1, room, api.ErrArg)
		})
		want := api.ErrPoolNone
		if isOpen {
			want = api.OK
		}
		answers(t, "Abort", w.p.Abort(), want)
	}
}

func TestT2TablesSideBySideDoNotDisturbOneAnother(t *testing.T) {
	l := append(sample().pages(t), state{one(2, 9, 4)}.pages(t)...)
	d := loaded(t, image(t, 128, 19, l...))
	p := pooled(t, d, 3)
	a, b := over(t, d, p, 19, room), over(t, d, p, 27, 10)
	a.begin(t)
	a.does(t, add(2, 50))
	b.does(t, charge(2, 5))
	b.does(t, add(1, 1))
	a.refuses(t, add(5, 7), api.ErrTenantRoom)
	b.refuses(t, add(5, 1), api.ErrTenantRoom)
	a.tells(t, sample().with(one(2, 50, 0)))
	b.tells(t, state{one(1, 1, 0), one(2, 9, 9)})
	a.dirty(t, 20, 27, 28)
}
