package tenant_test

import (
	"fmt"
	"math"
	"math/rand"
	"slices"
	"testing"

	"strongbox/api"
	"strongbox/tenant"
)

// bench is two tables over the same pages, and their model: a plain list of tenants.
type bench struct {
	*parts
	tables  [2]*tenant.Table
	last    state // what was committed
	now     state // what the transaction sees
	written []int // what it has written
	open    bool
	lost    bool
	would   *state         // what the commit in which the disk died would have made
	trouble bool           // the disk is dead, or will die
	seen    map[string]int // how often each call has answered each error
}

func newBench(t *testing.T, r *rand.Rand) *bench {
	t.Helper()
	capacity := []int{0, 1, 20, 83, 500, 1024}[r.Intn(6)]
	var m state
	rest := capacity
	for _, k := range some(r, 8, r.Intn(4)) {
		y := one(k+1, r.Intn(rest+1), 0)
		y.Charge = r.Intn(y.Quota + 1)
		for _, n := range some(r, 100, 1)[:r.Intn(9)] {
			y.Volumes = append(y.Volumes, api.Volume{Number: n, Root: r.Intn(1024)})
		}
		rest -= y.Quota
		m = append(m, y)
	}
	at := 19 + r.Intn(128-8-19+1)
	b := &bench{parts: &parts{at: at, capacity: capacity}, last: m, now: m}
	b.d = loaded(t, image(t, 128, at, m.pages(t)...))
	b.enter(t, r)
	return b
}

// enter opens the pool and the tables.
func (b *bench) enter(t *testing.T, r *rand.Rand) {
	t.Helper()
	b.p = pooled(t, b.d, []int{0, 1, 3, 7, 8, 64}[r.Intn(6)])
	for k := range b.tables {
		b.tables[k] = over(t, b.d, b.p, b.at, b.capacity).x
	}
}

// isDeath tells whether an error is that of a disk that is dead: which pages are at hand is not followed here, so it may be told or not, until it was told once.
func (b *bench) isDeath(t *testing.T, e api.Errno) bool {
	t.Helper()
	if b.lost && e != api.ErrDead || e == api.ErrDead && !b.lost && !b.d.Dead() {
		t.Fatalf("%d, of a pool that is lost (%v) and a disk that is dead (%v)", e, b.lost, b.d.Dead())
	}
	b.lost = b.lost || e == api.ErrDead
	return b.lost
}

// fits tells whether the transaction may write a sector, and lets it be written.
func (b *bench) fits(i int) bool {
	if slices.Contains(b.written, i) {
		return true
	}
	if len(b.written) == 16 {
		return false
	}
	b.written = append(b.written, i)
	return true
}

// ask holds a call against the model.
func (b *bench) ask(t *testing.T, x *tenant.Table, c call) {
	t.Helper()
	want, now := b.now.asked(c, b.capacity)
	got := c.of(x)
	switch {
	case want.e == api.ErrArg:
	case c.changes() && !b.open:
		want = answer{e: api.ErrPoolNone}
	case b.isDeath(t, got.e):
		want = answer{e: api.ErrDead}
	case c.changes() && want.e == api.OK && !b.fits(b.sector(c.tenant)):
		want = answer{e: api.ErrPoolFull}
	default:
		b.now = now
	}
	if fmt.Sprint(got) != fmt.Sprint(want) {
		t.Fatalf("%v = %v, want %v; of %v within %d", c, got, want, b.now, b.capacity)
	}
	b.seen[fmt.Sprint(c.name, got.e)]++
	// The theorem of the chapter, as far as it can be told.
	if c.name == "Left" && got.number < 0 || got.tenant.Charge > got.tenant.Quota {
		t.Fatalf("%v = %v", c, got)
	}
}

// edge is a number by chance: one of these, or below so many.
func edge(r *rand.Rand, below int, edges ...int) int {
	if r.Intn(12) == 0 {
		return edges[r.Intn(len(edges))]
	}
	return r.Intn(below)
}

// who is a tenant by chance, more often one who is there, and now and then none.
func (b *bench) who(r *rand.Rand) int {
	if len(b.now) > 0 && r.Intn(3) > 0 {
		return b.now[r.Intn(len(b.now))].Number
	}
	return edge(r, 8, -1, 8, math.MaxInt-1, math.MinInt) + 1
}

// which is a volume of a tenant by chance, more often one that it has, and now and then none.
func (b *bench) which(r *rand.Rand, number int) int {
	if k := b.now.at(number); k >= 0 && len(b.now[k].Volumes) > 0 && r.Intn(3) > 0 {
		return b.now[k].Volumes[r.Intn(len(b.now[k].Volumes))].Number
	}
	return edge(r, 100, -1, 100, 255, math.MaxInt, math.MinInt)
}

// change asks a call that changes something.
func (b *bench) change(t *testing.T, r *rand.Rand, x *tenant.Table) {
	t.Helper()
	k := b.who(r)
	left := max(0, b.capacity-b.now.quotas())
	switch r.Intn(9) {
	case 0:
		b.ask(t, x, add(k, edge(r, left+2, -1, left, left+1, 65535, 65536, math.MaxInt, math.MinInt)))
	case 1:
		b.ask(t, x, add(r.Intn(8)+1, r.Intn(left/2+2)))
	case 2:
		b.ask(t, x, remove(k))
	case 3:
		b.ask(t, x, addVolume(k, b.which(r, k), edge(r, 1024, -1, 1024, math.MaxInt, math.MinInt)))
	case 4:
		b.ask(t, x, addVolume(k, r.Intn(100), r.Intn(1024)))
	case 5, 6:
		b.ask(t, x, removeVolume(k, b.which(r, k)))
	default:
		y := api.Tenant{Quota: 10}
		if i := b.now.at(k); i >= 0 {
			y = b.now[i]
		}
		more := r.Intn(y.Quota+1) - y.Charge
		if r.Intn(4) == 0 {
			more = []int{0, -y.Charge - 1, y.Quota - y.Charge + 1, y.Quota + 1, math.MaxInt, math.MinInt, math.MaxInt - y.Charge, math.MinInt + y.Quota}[r.Intn(8)]
		}
		b.ask(t, x, charge(k, more))
	}
}

// tell asks a call that tells something.
func (b *bench) tell(t *testing.T, r *rand.Rand, x *tenant.Table) {
	t.Helper()
	k := b.who(r)
	b.ask(t, x, []call{get(k), list(), left(), root(k, b.which(r, k))}[r.Intn(4)])
}

// ended lets no transaction be open in the model.
func (b *bench) ended(last state) {
	b.open, b.written = false, nil
	b.last, b.now = last, last
}

func (b *bench) begins(t *testing.T) {
	t.Helper()
	want := api.OK
	if b.open {
		want = api.ErrPoolOpen
	} else if b.lost {
		want = api.ErrDead
	}
	answers(t, "Begin", b.p.Begin(), want)
	b.open = b.open || want == api.OK
}

func (b *bench) aborts(t *testing.T) {
	t.Helper()
	want := api.OK
	if !b.open {
		want = api.ErrPoolNone
	}
	answers(t, "Abort", b.p.Abort(), want)
	b.ended(b.last)
}

func (b *bench) commits(t *testing.T) {
	t.Helper()
	if !b.open {
		answers(t, "Commit", b.p.Commit(), api.ErrPoolNone)
		return
	}
	was, now, gone := b.last, b.now, b.lost || b.d.Dead()
	if e := b.p.Commit(); b.isDeath(t, e) {
		if !gone {
			b.would = &now
		}
		b.ended(was)
		return
	}
	b.ended(now)
	if !b.isOnDisk(t, now) {
		t.Fatal("what was committed does not last")
	}
}

// revive crashes the disk and opens all anew.
func (b *bench) revive(t *testing.T, r *rand.Rand) {
	t.Helper()
	answers(t, "Crash", b.d.Crash(some(r, b.d.Pending(), 2)), api.OK)
	b.enter(t, r)
	// Now and then its image is carried to another one, behind what is to be done once more.
	if r.Intn(2) == 0 {
		b.d = loaded(t, b.d.Image())
		b.enter(t, r)
	}
	b.trouble, b.lost = false, false
	if b.would != nil && b.isOnDisk(t, *b.would) {
		b.last = *b.would
	}
	b.would = nil
	b.ended(b.last)
	if !b.isOnDisk(t, b.last) {
		t.Fatal("neither the old nor the new stands")
	}
}

// byOthers lays sectors down past the tables: a page of a tenant, or some that are nobody's.
func (b *bench) byOthers(t *testing.T, r *rand.Rand) {
	t.Helper()
	if !b.open || b.d.Dead() {
		return
	}
	if k := r.Intn(8) + 1; r.Intn(3) == 0 && b.fits(b.sector(k)) {
		// Nobody, or one with what is left.
		m := b.now.without(k)
		if r.Intn(2) == 0 {
			m = m.with(one(k, b.capacity-m.quotas(), 0, r.Intn(50), 5, 50+r.Intn(50), 6))
		}
		answers(t, "Write", b.p.Write(b.sector(k), m.pages(t)[k-1]), api.OK)
		b.now = m
		return
	}
	for range r.Intn(30) {
		i := 19 + r.Intn(128-19)
		if isOwn := b.at <= i && i < b.at+8; !isOwn && b.fits(i) {
			b.write(t, i)
		}
	}
}

// step does one thing by chance.
func (b *bench) step(t *testing.T, r *rand.Rand) {
	t.Helper()
	x := b.tables[r.Intn(2)]
	n := r.Intn(100)
	if !b.open && n < 55 && r.Intn(3) > 0 {
		// Most calls want a transaction.
		n = 75
	}
	switch {
	case n < 55:
		b.change(t, r, x)
	case n < 72:
		b.tell(t, r, x)
	case n < 80:
		b.begins(t)
	case n < 86:
		b.commits(t)
	case n < 89:
		b.aborts(t)
	case n < 94:
		b.byOthers(t, r)
	case n < 96 && !b.trouble:
		b.trouble = true
		b.dieAt(t, max(0, r.Intn(90)-30))
	case b.lost || n < 97:
		b.revive(t, r)
	}
}

// look holds what the transaction has written, and all that is told, against the model.
func (b *bench) look(t *testing.T, r *rand.Rand) {
	t.Helper()
	b.dirty(t, b.written...)
	if b.lost || b.d.Dead() {
		return
	}
	b.x = b.tables[r.Intn(2)]
	b.outlines(t, b.now)
	b.sees(t, b.now)
}

func TestT8AnyCallsAgreeWithAPlainList(t *testing.T) {
	seen := map[string]int{}
	for seed := range int64(100) {
		r := rand.New(rand.NewSource(seed))
		benches := []*bench{newBench(t, r), newBench(t, r), newBench(t, r)}
		for _, b := range benches {
			b.seen = seen
		}
		for range 500 {
			b := benches[r.Intn(len(benches))]
			b.step(t, r)
			// All are looked at now and then, so that one is seen to be as it was while another one is used.
			if r.Intn(20) == 0 {
				for _, b := range benches {
					b.look(t, r)
				}
			}
		}
	}
	// None of what may be answered is left out by chance.
	for name, own := range map[string][]api.Errno{
		"Add":          {api.ErrTenantTwice, api.ErrTenantRoom},
		"Remove":       {api.ErrTenantNone, api.ErrTenantUsed},
		"AddVolume":    {api.ErrTenantNone, api.ErrVolumeTwice, api.ErrVolumeMany},
		"RemoveVolume": {api.ErrTenantNone, api.ErrVolumeNone},
		"Charge":       {api.ErrTenantNone, api.ErrTenantCharge, api.ErrTenantQuota},
		"Get":          {api.ErrTenantNone},
		"Root":         {api.ErrTenantNone, api.ErrVolumeNone},
	} {
		own = append(own, api.OK, api.ErrArg, api.ErrDead)
		if (call{name: name}).changes() {
			own = append(own, api.ErrPoolNone, api.ErrPoolFull)
		}
		for _, e := range own {
			if seen[fmt.Sprint(name, e)] < 5 {
				t.Errorf("%s has answered %d %d times: %v", name, e, seen[fmt.Sprint(name, e)], seen)
			}
		}
	}
}
