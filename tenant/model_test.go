package tenant_test

import (
	"fmt"
	"math/rand"
	"slices"
	"strings"
	"testing"

	"strongbox/api"
	"strongbox/disk"
	"strongbox/journal"
	"strongbox/pack"
	"strongbox/pool"
	"strongbox/tenant"
)

// text is a sector's bytes that have this number: no two numbers have the same ones, and none is a page.
func text(n int) string {
	b := make([]byte, 256)
	for i := range b {
		b[i] = byte(n>>(i%4*8)) ^ byte(7*i+1)
	}
	return string(b)
}

// noughts are so many bytes 0.
func noughts(n int) string { return strings.Repeat("\x00", n) }

// page is a page as a sector.
func page(t *testing.T, kind, number int, body string) string {
	t.Helper()
	s, e := pack.MakePage(api.Page{Kind: kind, Number: number, Body: body})
	answers(t, "MakePage", e, api.OK)
	return s
}

// four is a number by 4 bytes.
func four(n int) string { return string([]byte{byte(n >> 24), byte(n >> 16), byte(n >> 8), byte(n)}) }

// bodyOf is the body of the page of one who is there, by the chapter's words.
func bodyOf(y api.Tenant) string {
	s := "\x01" + four(y.Quota) + four(y.Charge) + string([]byte{byte(len(y.Volumes))})
	for _, v := range y.Volumes {
		s += string([]byte{byte(v.Number)}) + four(v.Root)
	}
	return s + noughts(50-len(s))
}

// one is a tenant; of each of its volumes the number and the root follow.
func one(number, quota, charge int, volumes ...int) api.Tenant {
	y := api.Tenant{Number: number, Quota: quota, Charge: charge}
	for k := 0; k < len(volumes); k += 2 {
		y.Volumes = append(y.Volumes, api.Volume{Number: volumes[k], Root: volumes[k+1]})
	}
	return y
}

// state is a plain list of tenants, by rising numbers.
type state []api.Tenant

// at is where in the list a tenant is, or -1.
func (m state) at(number int) int {
	return slices.IndexFunc(m, func(y api.Tenant) bool { return y.Number == number })
}

// of is a tenant who is there.
func (m state) of(number int) api.Tenant { return m[m.at(number)] }

// with is the list with these, each in the stead of the one of its number.
func (m state) with(in ...api.Tenant) state {
	for _, y := range in {
		m = append(m.without(y.Number), y)
	}
	slices.SortFunc(m, func(a, b api.Tenant) int { return a.Number - b.Number })
	return m
}

// without is the list without one.
func (m state) without(number int) state {
	return slices.DeleteFunc(slices.Clone(m), func(y api.Tenant) bool { return y.Number == number })
}

func (m state) numbers() []int {
	var l []int
	for _, y := range m {
		l = append(l, y.Number)
	}
	return l
}

func (m state) quotas() int {
	sum := 0
	for _, y := range m {
		sum += y.Quota
	}
	return sum
}

// pages are the eight, as sectors.
func (m state) pages(t *testing.T) []string {
	t.Helper()
	var l []string
	for k := 1; k <= 8; k++ {
		body := noughts(50)
		if m.at(k) >= 0 {
			body = bodyOf(m.of(k))
		}
		l = append(l, page(t, 5, k, body))
	}
	return l
}

// room is the capacity of a sample's table.
const room = 500

// sample has tenants with none, one, two, seven and eight volumes; 2, 5 and 7 are not there; 56 are left.
func sample() state {
	return state{
		one(1, 83, 3, 2, 7, 5, 0),
		one(3, 0, 0),
		one(4, 300, 300, 0, 1023, 1, 5, 10, 5, 50, 0, 60, 1, 70, 2, 98, 3, 99, 4),
		one(6, 21, 20, 99, 1023),
		one(8, 40, 0, 0, 0, 20, 1, 30, 2, 40, 3, 50, 4, 60, 5, 70, 6),
	}
}

// image is one of so many sectors, each of its own bytes, but for the journal's head, which is clear, and these sectors from a place on.
func image(t *testing.T, size, at int, sectors ...string) []string {
	t.Helper()
	l := make([]string, size)
	for i := range l {
		l[i] = text(1000000 + i)
	}
	copy(l[at:], sectors)
	d := loaded(t, l)
	answers(t, "Format", journal.Format(d), api.OK)
	return d.Image()
}

func loaded(t *testing.T, l []string) *disk.Disk {
	t.Helper()
	d, e := disk.Load(l)
	if d == nil || e != api.OK {
		t.Fatalf("Load of %d = %v, %d", len(l), d, e)
	}
	return d
}

func pooled(t *testing.T, d *disk.Disk, keep int) *pool.Pool {
	t.Helper()
	p, e := pool.Open(d, keep)
	if p == nil || e != api.OK {
		t.Fatalf("Open of a pool with %d = %v, %d, want a pool, OK", keep, p, e)
	}
	return p
}

// refused holds an Open that must not be OK against what it must answer.
func refused(t *testing.T, p *pool.Pool, at, capacity int, want api.Errno) {
	t.Helper()
	if x, e := tenant.Open(p, at, capacity); x != nil || e != want {
		t.Fatalf("Open(%d, %d) = %v, %d, want nil, %d", at, capacity, x, e, want)
	}
}

// parts is a disk and what stands on it.
type parts struct {
	d        *disk.Disk
	p        *pool.Pool
	x        *tenant.Table
	at       int
	capacity int
}

// over opens a table over a pool of a disk.
func over(t *testing.T, d *disk.Disk, p *pool.Pool, at, capacity int) *parts {
	t.Helper()
	x, e := tenant.Open(p, at, capacity)
	if x == nil || e != api.OK {
		t.Fatalf("Open(%d, %d) = %v, %d, want a table, OK", at, capacity, x, e)
	}
	return &parts{d: d, p: p, x: x, at: at, capacity: capacity}
}

// opened opens a table from the sector 19 on, with a pool that keeps so many sectors at hand.
func opened(t *testing.T, d *disk.Disk, keep, capacity int) *parts {
	t.Helper()
	return over(t, d, pooled(t, d, keep), 19, capacity)
}

// made is a new disk with a table of these.
func made(t *testing.T, keep, capacity int, m state) *parts {
	t.Helper()
	return opened(t, loaded(t, image(t, 128, 19, m.pages(t)...)), keep, capacity)
}

// sector is that of a tenant's page.
func (w *parts) sector(number int) int { return w.at + number - 1 }

// nobodys are so many sectors that are nobody's.
func nobodys(many int) []int { return from(60, many) }

// answers holds an answer that is an error alone against what it must be.
func answers(t *testing.T, what string, got, want api.Errno) {
	t.Helper()
	if got != want {
		t.Fatalf("%s = %d, want %d", what, got, want)
	}
}

// call is one of a table's, with its numbers.
type call struct {
	name   string
	tenant int
	n      int // the quota, the volume, or more
	root   int
}

func add(tenant, quota int) call { return call{name: "Add", tenant: tenant, n: quota} }

func remove(tenant int) call { return call{name: "Remove", tenant: tenant} }

func get(tenant int) call { return call{name: "Get", tenant: tenant} }

func list() call { return call{name: "List"} }

func left() call { return call{name: "Left"} }

func addVolume(tenant, volume, root int) call {
	return call{name: "AddVolume", tenant: tenant, n: volume, root: root}
}

func removeVolume(tenant, volume int) call {
	return call{name: "RemoveVolume", tenant: tenant, n: volume}
}

func root(tenant, volume int) call { return call{name: "Root", tenant: tenant, n: volume} }

func charge(tenant, more int) call { return call{name: "Charge", tenant: tenant, n: more} }

// changes tells whether it is one that changes something.
func (c call) changes() bool {
	return slices.Contains([]string{"Add", "Remove", "AddVolume", "RemoveVolume", "Charge"}, c.name)
}

// answer is what a call answers: of all but the error it has what it tells.
type answer struct {
	e      api.Errno
	number int
	list   []int
	tenant api.Tenant
}

// of asks a table.
func (c call) of(x *tenant.Table) answer {
	var a answer
	switch c.name {
	case "Add":
		a.e = x.Add(c.tenant, c.n)
	case "Remove":
		a.e = x.Remove(c.tenant)
	case "Get":
		a.tenant, a.e = x.Get(c.tenant)
	case "List":
		a.list, a.e = x.List()
	case "Left":
		a.number, a.e = x.Left()
	case "AddVolume":
		a.e = x.AddVolume(c.tenant, c.n, c.root)
	case "RemoveVolume":
		a.e = x.RemoveVolume(c.tenant, c.n)
	case "Root":
		a.number, a.e = x.Root(c.tenant, c.n)
	case "Charge":
		a.e = x.Charge(c.tenant, c.n)
	}
	return a
}

// isRight tells whether the numbers of a call may be.
func (c call) isRight() bool {
	switch c.name {
	case "List", "Left":
		return true
	case "Add":
		return c.tenant >= 1 && c.tenant <= 8 && c.n >= 0 && c.n <= 65535
	case "AddVolume", "RemoveVolume", "Root":
		return c.tenant >= 1 && c.tenant <= 8 && c.n >= 0 && c.n <= 99 && c.root >= 0 && c.root <= 1023
	}
	return c.tenant >= 1 && c.tenant <= 8
}

// asked is what a call answers of a plain list, and what the list is behind it, if nothing is wrong with the pool.
func (m state) asked(c call, capacity int) (answer, state) {
	if !c.isRight() {
		return answer{e: api.ErrArg}, m
	}
	switch c.name {
	case "List":
		return answer{list: m.numbers()}, m
	case "Left":
		return answer{number: capacity - m.quotas()}, m
	}
	k := m.at(c.tenant)
	switch {
	case c.name == "Add" && k >= 0:
		return answer{e: api.ErrTenantTwice}, m
	case c.name == "Add" && m.quotas()+c.n > capacity:
		return answer{e: api.ErrTenantRoom}, m
	case c.name == "Add":
		return answer{}, m.with(one(c.tenant, c.n, 0))
	case k < 0:
		return answer{e: api.ErrTenantNone}, m
	}
	y := m[k]
	has := slices.IndexFunc(y.Volumes, func(v api.Volume) bool { return v.Number == c.n })
	switch c.name {
	case "Get":
		return answer{tenant: y}, m
	case "Remove":
		if len(y.Volumes) > 0 {
			return answer{e: api.ErrTenantUsed}, m
		}
		return answer{}, m.without(c.tenant)
	case "Charge":
		return m.charged(y, c.n)
	case "AddVolume":
		if has >= 0 {
			return answer{e: api.ErrVolumeTwice}, m
		}
		if len(y.Volumes) == 8 {
			return answer{e: api.ErrVolumeMany}, m
		}
		y.Volumes = append(slices.Clone(y.Volumes), api.Volume{Number: c.n, Root: c.root})
		slices.SortFunc(y.Volumes, func(a, b api.Volume) int { return a.Number - b.Number })
		return answer{}, m.with(y)
	}
	if has < 0 {
		return answer{e: api.ErrVolumeNone}, m
	}
	if c.name == "Root" {
		return answer{number: y.Volumes[has].Root}, m
	}
	y.Volumes = slices.Delete(slices.Clone(y.Volumes), has, has+1)
	return answer{}, m.with(y)
}

// charged is a Charge of one who is there.
func (m state) charged(y api.Tenant, more int) (answer, state) {
	switch {
	case more < -70000, more < 0 && y.Charge+more < 0:
		return answer{e: api.ErrTenantCharge}, m
	case more > 70000, more > 0 && y.Charge+more > y.Quota:
		return answer{e: api.ErrTenantQuota}, m
	}
	y.Charge += more
	return answer{}, m.with(y)
}

// is holds a call against what it must answer.
func (w *parts) is(t *testing.T, c call, want answer) {
	t.Helper()
	// By their texts: a list of none may be nil or not.
	if got := c.of(w.x); fmt.Sprint(got) != fmt.Sprint(want) {
		t.Fatalf("%v = %v, want %v", c, got, want)
	}
}

// refuses holds a call against an error.
func (w *parts) refuses(t *testing.T, c call, want api.Errno) {
	t.Helper()
	w.is(t, c, answer{e: want})
}

// does holds a call that must be OK against it, and the sector that it writes.
func (w *parts) does(t *testing.T, c call) {
	t.Helper()
	w.is(t, c, answer{})
	if c.changes() && !slices.Contains(w.p.Dirty(), w.sector(c.tenant)) {
		t.Fatalf("%v has written %v", c, w.p.Dirty())
	}
}

// follows holds a call in a transaction against a plain list; what that is behind it.
func (w *parts) follows(t *testing.T, c call, m state) state {
	t.Helper()
	want, now := m.asked(c, w.capacity)
	w.is(t, c, want)
	return now
}

// tells holds what a table tells against a plain list.
func (w *parts) tells(t *testing.T, m state) {
	t.Helper()
	w.is(t, list(), answer{list: m.numbers()})
	w.is(t, left(), answer{number: w.capacity - m.quotas()})
	for k := range 10 {
		w.follows(t, get(k), m)
		if m.at(k) < 0 {
			w.follows(t, root(k, 5), m)
			continue
		}
		for _, v := range m.of(k).Volumes {
			for n := v.Number - 1; n <= v.Number+1; n++ {
				w.follows(t, root(k, n), m)
			}
		}
	}
}

// sees holds the bytes of the pages, as the pool sees them, against a plain list.
func (w *parts) sees(t *testing.T, m state) {
	t.Helper()
	for k, s := range m.pages(t) {
		w.has(t, w.at+k, s)
	}
}

// has holds a sector, as the pool sees it, against its bytes.
func (w *parts) has(t *testing.T, i int, want string) {
	t.Helper()
	if s, e := w.p.Read(i); s != want || e != api.OK {
		t.Fatalf("Read(%d) = %q, %d, want %q, OK", i, s, e, want)
	}
}

// dirty holds the sectors that the transaction has written against a list, in whatever order.
func (w *parts) dirty(t *testing.T, want ...int) {
	t.Helper()
	want = slices.Clone(want)
	slices.Sort(want)
	if l := w.p.Dirty(); !slices.Equal(l, slices.Compact(want)) {
		t.Fatalf("Dirty = %v, want %v", l, want)
	}
}

// unchanged looks whether all is as it was behind some calls: each sector as the pool sees it, what was written, what lasts, and the acts.
func (w *parts) unchanged(t *testing.T, calls func()) {
	t.Helper()
	look := func() string {
		l := []any{w.p.Dirty(), w.d.Image(), w.d.Trace(), w.d.Pending()}
		for i := 19; i < w.p.Size(); i++ {
			s, e := w.p.Read(i)
			l = append(l, s, e)
		}
		return fmt.Sprint(l...)
	}
	was := look()
	calls()
	if look() != was {
		t.Fatal("something is changed")
	}
}

func (w *parts) begin(t *testing.T) {
	t.Helper()
	answers(t, "Begin", w.p.Begin(), api.OK)
}

func (w *parts) commit(t *testing.T) {
	t.Helper()
	answers(t, "Commit", w.p.Commit(), api.OK)
}

func (w *parts) abort(t *testing.T) {
	t.Helper()
	answers(t, "Abort", w.p.Abort(), api.OK)
}

// write lets the transaction write these sectors.
func (w *parts) write(t *testing.T, sectors ...int) {
	t.Helper()
	for _, i := range sectors {
		answers(t, "Write", w.p.Write(i, text(i)), api.OK)
	}
}

// kill lets the disk die without an act.
func (w *parts) kill(t *testing.T) {
	t.Helper()
	answers(t, "Arm", w.d.Arm(1), api.OK)
	answers(t, "Flush", w.d.Flush(), api.ErrDead)
}

// lose lets the pool be lost, by a Read of its disk, which is dead then.
func (w *parts) lose(t *testing.T) {
	t.Helper()
	w.kill(t)
	if s, e := w.p.Read(0); s != "" || e != api.ErrDead {
		t.Fatalf("Read = %.16q, %d, want ErrDead", s, e)
	}
}

// upTo are the numbers below n.
func upTo(n int) []int { return from(0, n) }

// from are so many numbers from the first on.
func from(first, many int) []int {
	l := make([]int, many)
	for i := range l {
		l[i] = first + i
	}
	return l
}

// some are by chance some of the numbers below n, of 4 so many as told.
func some(r *rand.Rand, n, of4 int) []int {
	return slices.DeleteFunc(upTo(n), func(int) bool { return r.Intn(4) >= of4 })
}
