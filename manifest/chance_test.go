package manifest_test

import (
	"math/rand"
	"slices"
	"testing"

	"strongbox/api"
	"strongbox/manifest"
)

// bench is two stores of the same parts, and their model: plain maps, and a plain list of the taken places.
type bench struct {
	*parts
	stores  [2]*manifest.Store
	last    state // what was committed
	now     state // what the transaction sees
	written []int // what it has written
	open    bool
	lost    bool
	would   *state // what the commit in which the disk died would have made
	trouble bool   // the disk is dead, or will die
}

func newBench(t *testing.T, r *rand.Rand) *bench {
	t.Helper()
	count := []int{1, 2, 4, 12, 12, 30, 60, 258}[r.Intn(8)]
	m := state{}
	for _, i := range some(r, count, r.Intn(4)) {
		if r.Intn(2) == 0 || count > 60 {
			m.others = append(m.others, i)
		} else {
			m = m.with(bare(i, 1+r.Intn(8), r.Intn(100)))
		}
	}
	for range r.Intn(40) {
		if n, i := len(m.volumes), m.free(); n > 0 && i < count {
			m = m.with(m.volumes[r.Intn(n)].set(r.Intn(60), i, entry(r.Intn(1000))))
		}
	}
	b := &bench{last: m, now: m, parts: &parts{d: loaded(t, m.image(t, count)), count: count}}
	b.enter(t, r)
	return b
}

// enter opens all anew.
func (b *bench) enter(t *testing.T, r *rand.Rand) {
	t.Helper()
	b.parts = opened(t, b.d, []int{0, 1, 2, 3, 8, 64}[r.Intn(6)], b.count)
	b.stores = [2]*manifest.Store{b.s, manifest.Open(b.p, b.m, first(b.count))}
}

// isDeath tells whether an error is that of a disk that is dead: which sectors are at hand is not looked at here, so it may be told or not, until it was told once.
func (b *bench) isDeath(t *testing.T, e api.Errno) bool {
	t.Helper()
	if b.lost && e != api.ErrDead || e == api.ErrDead && !b.lost && !b.d.Dead() {
		t.Fatalf("%d, of a pool that is lost (%v) and a disk that is dead (%v)", e, b.lost, b.d.Dead())
	}
	b.lost = b.lost || e == api.ErrDead
	return b.lost
}

// fits writes sectors in the model, if all have room.
func (b *bench) fits(sectors ...int) bool {
	l := slices.Clone(b.written)
	for _, i := range sectors {
		if !slices.Contains(l, i) {
			l = append(l, i)
		}
	}
	if len(l) > 16 {
		return false
	}
	b.written = l
	return true
}

// refusal is why a root is refused by a call that answers this, whatever it is asked.
func (b *bench) refusal(t *testing.T, root int, changes bool, e api.Errno) api.Errno {
	t.Helper()
	switch {
	case changes && !b.open:
		return api.ErrPoolNone
	case root < 0 || root >= b.count:
		return api.ErrManifestForm
	case b.isDeath(t, e):
		return api.ErrDead
	case b.now.at(root) < 0:
		return api.ErrManifestForm
	}
	return api.OK
}

// wantCreate is what Create must do and answer, if it answers that.
func (b *bench) wantCreate(t *testing.T, tenant, n int, e api.Errno) (int, api.Errno) {
	t.Helper()
	if tenant < 1 || tenant > 8 || n < 0 || n > 99 {
		return 0, api.ErrArg
	}
	if !b.open {
		return 0, api.ErrPoolNone
	}
	if b.isDeath(t, e) {
		return 0, api.ErrDead
	}
	i := b.now.free()
	if i == b.count {
		return 0, api.ErrManifestFull
	}
	if !b.fits(b.bitmapAt(i), b.sectorAt(i)) {
		return 0, api.ErrPoolFull
	}
	b.now = b.now.with(bare(i, tenant, n))
	return i, api.OK
}

// wantDestroy is what Destroy must do and answer, if it answers that.
func (b *bench) wantDestroy(t *testing.T, root int, e api.Errno) (int, api.Errno) {
	t.Helper()
	if errno := b.refusal(t, root, true, e); errno != api.OK {
		return 0, errno
	}
	if len(b.now.of(root).mapped()) > 0 {
		return 0, api.ErrManifestUsed
	}
	if !b.fits(b.bitmapAt(root)) {
		return 0, api.ErrPoolFull
	}
	b.now = b.now.without(root)
	return 0, api.OK
}

// wantSet is what Set must do and answer, if it answers that.
func (b *bench) wantSet(t *testing.T, root, block int, in api.Entry, e api.Errno) (int, api.Errno) {
	t.Helper()
	if block < 0 || block > 59 {
		return 0, api.ErrManifestBlock
	}
	if len(in.Digest) != 32 || len(in.Wrapped) != 48 {
		return 0, api.ErrManifestEntry
	}
	if errno := b.refusal(t, root, true, e); errno != api.OK {
		return 0, errno
	}
	v := b.now.of(root)
	if place := v.leaves[block/3]; place >= 0 {
		if !b.fits(b.sectorAt(place)) {
			return 0, api.ErrPoolFull
		}
		b.now = b.now.with(v.set(block, place, in))
		return 0, api.OK
	}
	i := b.now.free()
	if i == b.count {
		return 0, api.ErrManifestFull
	}
	if !b.fits(b.bitmapAt(i), b.sectorAt(i), b.sectorAt(root)) {
		return 0, api.ErrPoolFull
	}
	b.now = b.now.with(v.set(block, i, in))
	return 1, api.OK
}

// wantClear is what Clear must do and answer, if it answers that.
func (b *bench) wantClear(t *testing.T, root, block int, e api.Errno) (int, api.Errno) {
	t.Helper()
	if block < 0 || block > 59 {
		return 0, api.ErrManifestBlock
	}
	if errno := b.refusal(t, root, true, e); errno != api.OK {
		return 0, errno
	}
	v := b.now.of(root)
	if v.blocks[block] == (api.Entry{}) {
		return 0, api.ErrManifestNone
	}
	place, now := v.leaves[block/3], v.clear(block)
	fewer, sectors := 0, []int{b.sectorAt(place)}
	if now.leaves[block/3] < 0 {
		fewer, sectors = 1, []int{b.bitmapAt(place), b.sectorAt(root)}
	}
	if !b.fits(sectors...) {
		return 0, api.ErrPoolFull
	}
	b.now = b.now.with(now)
	return fewer, api.OK
}

// change does one that changes something, by chance.
func (b *bench) change(t *testing.T, r *rand.Rand, s *manifest.Store) {
	t.Helper()
	before := b.p.Dirty()
	root, block, in := b.root(r), b.block(r), b.entry(r)
	var n, want int
	var e, errno api.Errno
	switch kind := r.Intn(20); {
	case kind < 3:
		tenant, number := 1+r.Intn(8), r.Intn(100)
		if r.Intn(8) == 0 {
			tenant, number = r.Intn(11)-1, r.Intn(104)-2
		}
		n, e = s.Create(tenant, number)
		want, errno = b.wantCreate(t, tenant, number, e)
	case kind < 5:
		e = s.Destroy(root)
		want, errno = b.wantDestroy(t, root, e)
	case kind < 13:
		n, e = s.Set(root, block, in)
		want, errno = b.wantSet(t, root, block, in, e)
	default:
		n, e = s.Clear(root, block)
		want, errno = b.wantClear(t, root, block, e)
	}
	number(t, "a change", n, e, want, errno)
	switch e {
	case api.OK:
	case api.ErrPoolFull:
		b.abort(t)
	default:
		b.dirty(t, before...)
	}
}

// tell asks for something, by chance.
func (b *bench) tell(t *testing.T, r *rand.Rand, s *manifest.Store) {
	t.Helper()
	root, block := b.root(r), b.block(r)
	isBlock := block >= 0 && block < 60
	switch r.Intn(3) {
	case 0:
		e, errno := s.Get(root, block)
		var in api.Entry
		want := api.ErrManifestBlock
		if isBlock {
			want = b.refusal(t, root, false, errno)
		}
		if want == api.OK {
			if in = b.now.of(root).blocks[block]; in == (api.Entry{}) {
				want = api.ErrManifestNone
			}
		}
		if e != in || errno != want {
			t.Fatalf("Get(%d, %d) = %q, %d, want %q, %d", root, block, e, errno, in, want)
		}
	case 1:
		n, errno := s.Grows(root, block)
		more, want := 0, api.ErrManifestBlock
		if isBlock {
			want = b.refusal(t, root, false, errno)
		}
		if want == api.OK && b.now.of(root).leaves[block/3] < 0 {
			more = 1
		}
		number(t, "Grows", n, errno, more, want)
	default:
		b.tellAll(t, s, root)
	}
}

// tellAll holds Mapped and Each against the model.
func (b *bench) tellAll(t *testing.T, s *manifest.Store, root int) {
	t.Helper()
	n, m, errno := s.Mapped(root)
	want := b.refusal(t, root, false, errno)
	v := volume{}
	pages := 0
	if want == api.OK {
		v = b.now.of(root)
		pages = len(v.places())
	}
	l := v.mapped()
	if n != len(l) || m != pages || errno != want {
		t.Fatalf("Mapped(%d) = %d, %d, %d, want %d, %d, %d", root, n, m, errno, len(l), pages, want)
	}
	if b.d.Dead() {
		return
	}
	for block, e := range s.Each(root) {
		if len(l) == 0 || l[0] != block || e != v.blocks[block] {
			t.Fatalf("Each(%d) tells %d, %q; %v are left", root, block, e, l)
		}
		l = l[1:]
	}
	if len(l) != 0 {
		t.Fatalf("Each(%d) does not tell %v", root, l)
	}
}

// root is one by chance: mostly a volume's, now and then another place or none.
func (b *bench) root(r *rand.Rand) int {
	if n := len(b.now.volumes); n > 0 && r.Intn(8) > 0 {
		return b.now.volumes[r.Intn(n)].root
	}
	return r.Intn(b.count+4) - 2
}

// block is one by chance, near to another, and now and then none.
func (b *bench) block(r *rand.Rand) int {
	if r.Intn(20) == 0 {
		return []int{-1, 60, 0, 59}[r.Intn(4)]
	}
	return []int{0, 1, 2, 3, 4, 5, 30, 31, 57, 58, 59}[r.Intn(11)]
}

// entry is one by chance, and now and then not a right one.
func (b *bench) entry(r *rand.Rand) api.Entry {
	if r.Intn(20) == 0 {
		return wrongEntries()[r.Intn(len(wrongEntries()))]
	}
	return entry(r.Intn(1000))
}

// ended lets no transaction be open in the model.
func (b *bench) ended(last state) {
	b.open, b.written = false, nil
	b.last, b.now = last, last
}

func (b *bench) begin(t *testing.T) {
	t.Helper()
	want := api.OK
	if b.open {
		want = api.ErrPoolOpen
	} else if b.lost {
		want = api.ErrDead
	}
	answers(t, "Begin", b.p.Begin(), want)
	b.open = b.open || want == api.OK
}

func (b *bench) abort(t *testing.T) {
	t.Helper()
	want := api.OK
	if !b.open {
		want = api.ErrPoolNone
	}
	answers(t, "Abort", b.p.Abort(), want)
	b.ended(b.last)
}

func (b *bench) commit(t *testing.T) {
	t.Helper()
	if !b.open {
		answers(t, "Commit", b.p.Commit(), api.ErrPoolNone)
		return
	}
	was, now, gone := b.last, b.now, b.lost || b.d.Dead()
	if e := b.p.Commit(); b.isDeath(t, e) {
		if !gone {
			b.would = &now
		}
		b.ended(was)
		return
	}
	b.ended(now)
	if !b.isOnDisk(t, now) {
		t.Fatal("what was committed does not last")
	}
}

// revive crashes the disk and opens all anew.
func (b *bench) revive(t *testing.T, r *rand.Rand) {
	t.Helper()
	answers(t, "Crash", b.d.Crash(some(r, b.d.Pending(), 2)), api.OK)
	b.enter(t, r)
	// Now and then its image is carried to another one, behind what is to be done once more.
	if r.Intn(2) == 0 {
		b.d = loaded(t, b.d.Image())
		b.enter(t, r)
	}
	b.trouble, b.lost = false, false
	if b.would != nil && b.isOnDisk(t, *b.would) {
		b.last = *b.would
	}
	b.would = nil
	b.ended(b.last)
	if !b.isOnDisk(t, b.last) {
		t.Fatal("neither the old nor the new stands")
	}
}

// byOthers takes or gives back a place past the store, or writes sectors that are nobody's.
func (b *bench) byOthers(t *testing.T, r *rand.Rand) {
	t.Helper()
	if !b.open || b.d.Dead() || len(b.written) > 14 {
		return
	}
	switch i := b.now.free(); r.Intn(3) {
	case 0:
		if i < b.count {
			if got, e := b.m.Alloc(); got != i || e != api.OK {
				t.Fatalf("Alloc = %d, %d, want %d", got, e, i)
			}
			answers(t, "Write", b.p.Write(b.sectorAt(i), text(1000000+b.sectorAt(i))), api.OK)
			b.now = b.now.with()
			b.now.others = append(slices.Clone(b.now.others), i)
			b.fits(b.bitmapAt(i), b.sectorAt(i))
		}
	case 1:
		if n := len(b.now.others); n > 0 {
			i = b.now.others[r.Intn(n)]
			answers(t, "Free", b.m.Free(i), api.OK)
			b.now.others = slices.DeleteFunc(slices.Clone(b.now.others), func(k int) bool { return k == i })
			b.fits(b.bitmapAt(i))
		}
	default:
		for _, i := range b.nobodys(14 - len(b.written) + r.Intn(3)) {
			if b.fits(i) {
				b.write(t, i)
			}
		}
	}
}

// step does one thing by chance.
func (b *bench) step(t *testing.T, r *rand.Rand) {
	t.Helper()
	s := b.stores[r.Intn(2)]
	n := r.Intn(100)
	if !b.open && n < 55 && r.Intn(3) > 0 {
		// Most calls want a transaction.
		n = 75
	}
	switch {
	case n < 55:
		b.change(t, r, s)
	case n < 72:
		b.tell(t, r, s)
	case n < 80:
		b.begin(t)
	case n < 87:
		b.commit(t)
	case n < 89:
		b.abort(t)
	case n < 95:
		b.byOthers(t, r)
	case n < 97 && !b.trouble:
		b.trouble = true
		b.dieAt(t, max(0, r.Intn(90)-30))
	case b.lost || n < 98:
		b.revive(t, r)
	}
}

// look holds what the transaction has written, and all that can be told, against the model.
func (b *bench) look(t *testing.T, r *rand.Rand) {
	t.Helper()
	b.dirty(t, b.written...)
	if b.lost || b.d.Dead() {
		return
	}
	b.isTaken(t, b.now.taken())
	for _, v := range b.now.volumes {
		b.tellAll(t, b.stores[r.Intn(2)], v.root)
	}
}

func TestM9AnyCallsAgreeWithPlainMaps(t *testing.T) {
	for seed := range int64(150) {
		r := rand.New(rand.NewSource(seed))
		benches := []*bench{newBench(t, r), newBench(t, r), newBench(t, r)}
		for range 500 {
			b := benches[r.Intn(len(benches))]
			b.step(t, r)
			// All are looked at now and then, so that one is seen to be as it was while another one is used.
			if r.Intn(10) == 0 {
				for _, b := range benches {
					b.look(t, r)
				}
			}
		}
	}
}
