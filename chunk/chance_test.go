package chunk_test

import (
	"math/rand"
	"slices"
	"testing"

	"strongbox/api"
	"strongbox/chunk"
)

// plain is what is there by a plain list of chunks (a count of 0: none), the places that others have taken, and what stands in the data sectors.
type plain struct {
	chunks []stored
	others []int
	data   []string
}

func (m plain) clone() plain {
	return plain{slices.Clone(m.chunks), slices.Clone(m.others), slices.Clone(m.data)}
}

// find tells where in the list a chunk of that digest is, or -1.
func (m plain) find(digest string) int {
	return slices.IndexFunc(m.chunks, func(c stored) bool { return c.digest() == digest })
}

// taken are the places that are, rising.
func (m plain) taken() []int {
	l := append(places(m.chunks), m.others...)
	slices.Sort(l)
	return l
}

// free is the least free place, or how many there are.
func (m plain) free() int {
	i := 0
	for _, k := range m.taken() {
		if k == i {
			i++
		}
	}
	return i
}

// bench is two stores of the same parts, and their model.
type bench struct {
	*parts
	stores  [2]*chunk.Store
	last    plain // what was committed
	now     plain // what the transaction sees
	written []int // what it has written
	open    bool
	lost    bool
	broken  bool   // a call was broken off: nothing is promised until an Abort and Reload
	would   *plain // what the commit in which the disk died would have made
	trouble bool   // the disk is dead, or will die
}

func newBench(t *testing.T, r *rand.Rand) *bench {
	t.Helper()
	count := []int{1, 2, 5, 6, 7, 13, 20}[r.Intn(7)]
	m := plain{}
	for _, i := range some(r, count, r.Intn(5)) {
		m.chunks = append(m.chunks, stored{i, text(i), []int{1, 1, 2, 3, 65533, 65535}[r.Intn(6)]})
	}
	d := loaded(t, image(t, count, m.chunks))
	m.data = d.Image()[first(count) : first(count)+count]
	b := &bench{last: m, now: m.clone(), parts: &parts{d: d, count: count}}
	b.enter(t, r)
	return b
}

// enter opens all anew.
func (b *bench) enter(t *testing.T, r *rand.Rand) {
	t.Helper()
	b.parts = opened(t, b.d, []int{0, 1, 2, 3, 8, 64}[r.Intn(6)], b.count)
	b.stores = [2]*chunk.Store{b.s, chunk.Open(b.p, b.m, b.x, first(b.count))}
}

// isDeath tells whether an error is that of a disk that is dead: which sectors are at hand is not looked at here, so it may be told or not, until it was told once.
func (b *bench) isDeath(t *testing.T, e api.Errno) bool {
	t.Helper()
	if b.lost && e != api.ErrDead || e == api.ErrDead && !b.lost && !b.d.Dead() {
		t.Fatalf("%d, of a pool that is lost (%v) and a disk that is dead (%v)", e, b.lost, b.d.Dead())
	}
	b.lost = b.lost || e == api.ErrDead
	return b.lost
}

// fits writes sectors in the model, one after the other, and tells whether all had room.
func (b *bench) fits(sectors ...int) bool {
	for _, i := range sectors {
		if slices.Contains(b.written, i) {
			continue
		}
		if len(b.written) == 16 {
			return false
		}
		b.written = append(b.written, i)
	}
	return true
}

// recount is the index's page written, with the chunk that is there in the list counted so much more.
func (b *bench) recount(k, more int) api.Errno {
	if !b.fits(b.indexAt(b.now.chunks[k].place)) {
		return api.ErrPoolFull
	}
	b.now.chunks[k].count += more
	return api.OK
}

// wantSave is what Save must do and answer, if it answers that.
func (b *bench) wantSave(t *testing.T, cipher string, e api.Errno) (bool, api.Errno) {
	t.Helper()
	if len(cipher) != 256 {
		return false, api.ErrChunkSize
	}
	if !b.open {
		return false, api.ErrPoolNone
	}
	if b.isDeath(t, e) {
		return false, api.ErrDead
	}
	if k := b.now.find(digest(cipher)); k >= 0 {
		switch c := b.now.chunks[k]; {
		case b.now.data[c.place] != cipher:
			return false, api.ErrChunkClash
		case c.count == 65535:
			return false, api.ErrChunkCount
		}
		return false, b.recount(k, 1)
	}
	i := b.now.free()
	if i == b.count {
		return false, api.ErrChunkFull
	}
	if !b.fits(b.bitmapAt(i), b.sectorAt(i), b.indexAt(i)) {
		return false, api.ErrPoolFull
	}
	b.now.data[i] = cipher
	b.now.chunks = with(b.now.chunks, stored{i, cipher, 1})
	return true, api.OK
}

func (b *bench) save(t *testing.T, s *chunk.Store, cipher string) {
	t.Helper()
	d, is, e := s.Save(cipher)
	isNew, want := b.wantSave(t, cipher, e)
	wantDigest := ""
	if want == api.OK {
		wantDigest = digest(cipher)
	}
	if d != wantDigest || is != isNew || e != want {
		t.Fatalf("Save = %x, %v, %d, want %x, %v, %d", d, is, e, wantDigest, isNew, want)
	}
	b.mend(t, e)
}

func (b *bench) hold(t *testing.T, s *chunk.Store, digest string) {
	t.Helper()
	e := s.Hold(digest)
	want, k := api.OK, b.now.find(digest)
	switch {
	case !b.open:
		want = api.ErrPoolNone
	case k < 0:
		want = api.ErrChunkNone
	case b.now.chunks[k].count == 65535:
		want = api.ErrChunkCount
	case b.isDeath(t, e):
		want = api.ErrDead
	default:
		want = b.recount(k, 1)
	}
	answers(t, "Hold", e, want)
	b.mend(t, e)
}

func (b *bench) drop(t *testing.T, s *chunk.Store, digest string) {
	t.Helper()
	is, e := s.Drop(digest)
	want, isGone, k := api.OK, false, b.now.find(digest)
	switch {
	case !b.open:
		want = api.ErrPoolNone
	case k < 0:
		want = api.ErrChunkNone
	case b.isDeath(t, e):
		want = api.ErrDead
	case b.now.chunks[k].count > 1:
		want = b.recount(k, -1)
	case !b.fits(b.indexAt(b.now.chunks[k].place), b.bitmapAt(b.now.chunks[k].place)):
		want = api.ErrPoolFull
	default:
		isGone = true
		b.now.chunks = slices.Delete(b.now.chunks, k, k+1)
	}
	if is != isGone || e != want {
		t.Fatalf("Drop = %v, %d, want %v, %d", is, e, isGone, want)
	}
	b.mend(t, e)
}

func (b *bench) load(t *testing.T, s *chunk.Store, digest string) {
	t.Helper()
	got, e := s.Load(digest)
	want, errno := "", api.OK
	if k := b.now.find(digest); k < 0 {
		errno = api.ErrChunkNone
	} else if b.isDeath(t, e) {
		errno = api.ErrDead
	} else {
		want = b.now.data[b.now.chunks[k].place]
	}
	if got != want || e != errno {
		t.Fatalf("Load = %.8q, %d, want %.8q, %d", got, e, want, errno)
	}
}

// mend aborts and reloads behind a call that was broken off.
func (b *bench) mend(t *testing.T, e api.Errno) {
	t.Helper()
	if e == api.ErrPoolFull {
		b.dirty(t, b.written...)
	}
	if e == api.ErrPoolFull || e == api.ErrDead {
		b.broken = true
		b.undo(t)
	}
}

// ended lets no transaction be open in the model.
func (b *bench) ended(last plain) {
	b.open, b.written = false, nil
	b.last, b.now = last, last.clone()
}

// undo aborts and reloads.
func (b *bench) undo(t *testing.T) {
	t.Helper()
	want := api.OK
	if !b.open {
		want = api.ErrPoolNone
	}
	answers(t, "Abort", b.p.Abort(), want)
	was := b.now
	b.ended(b.last)
	if e := b.x.Reload(); b.isDeath(t, e) {
		// It knows what it knew; only that is not what the pages say.
		b.now, b.broken = was, true
		return
	}
	b.broken = false
}

func (b *bench) begin(t *testing.T) {
	t.Helper()
	want := api.OK
	if b.open {
		want = api.ErrPoolOpen
	} else if b.lost {
		want = api.ErrDead
	}
	answers(t, "Begin", b.p.Begin(), want)
	b.open = b.open || want == api.OK
}

func (b *bench) commit(t *testing.T) {
	t.Helper()
	if !b.open {
		answers(t, "Commit", b.p.Commit(), api.ErrPoolNone)
		return
	}
	was, now, gone := b.last, b.now, b.lost || b.d.Dead()
	if e := b.p.Commit(); b.isDeath(t, e) {
		if !gone {
			b.would = &now
		}
		b.ended(was)
		b.broken = true
		return
	}
	b.ended(now)
	b.lasts(t, b.now)
}

// lasts holds the image of the disk against what was committed.
func (b *bench) lasts(t *testing.T, m plain) {
	t.Helper()
	l := b.d.Image()
	if !slices.Equal(l[19:first(b.count)], pages(t, b.count, m.chunks, m.others...)) || !slices.Equal(l[first(b.count):first(b.count)+b.count], m.data) {
		t.Fatal("the sectors are not those of what was committed")
	}
}

// revive crashes the disk and opens all anew.
func (b *bench) revive(t *testing.T, r *rand.Rand) {
	t.Helper()
	answers(t, "Crash", b.d.Crash(some(r, b.d.Pending(), 2)), api.OK)
	// Now and then its image is carried to another one, behind what is to be done once more.
	b.enter(t, r)
	if r.Intn(2) == 0 {
		b.d = loaded(t, b.d.Image())
		b.enter(t, r)
	}
	b.trouble, b.lost, b.broken = false, false, false
	if b.would != nil && slices.Equal(b.d.Image()[19:first(b.count)+b.count], append(pages(t, b.count, b.would.chunks, b.would.others...), b.would.data...)) {
		b.last = *b.would
	}
	b.would = nil
	b.ended(b.last)
	b.lasts(t, b.last)
}

// cipher is a chunk by chance, and now and then none.
func (b *bench) cipher(r *rand.Rand) string {
	s := text(r.Intn(b.count + 4))
	if r.Intn(20) == 0 {
		return (s + "x")[:[]int{0, 255, 256, 257}[r.Intn(4)]]
	}
	return s
}

// digest is one by chance, and now and then none.
func (b *bench) digest(r *rand.Rand) string {
	s := digest(text(r.Intn(b.count + 4)))
	if r.Intn(20) == 0 {
		return (s + "x")[:[]int{0, 31, 32, 33}[r.Intn(4)]]
	}
	return s
}

// byOthers takes or gives back a place past the store, writes over a chunk's sector, or writes sectors that are nobody's.
func (b *bench) byOthers(t *testing.T, r *rand.Rand) {
	t.Helper()
	if !b.open || b.d.Dead() || len(b.written) > 14 {
		return
	}
	switch i := b.now.free(); r.Intn(4) {
	case 0:
		if i < b.count {
			if got, e := b.m.Alloc(); got != i || e != api.OK {
				t.Fatalf("Alloc = %d, %d, want %d", got, e, i)
			}
			b.now.others = append(b.now.others, i)
			b.fits(b.bitmapAt(i))
		}
	case 1:
		if n := len(b.now.others); n > 0 {
			answers(t, "Free", b.m.Free(b.now.others[n-1]), api.OK)
			b.fits(b.bitmapAt(b.now.others[n-1]))
			b.now.others = b.now.others[:n-1]
		}
	case 2:
		i = r.Intn(b.count)
		b.now.data[i] = text(5000 + r.Intn(9))
		answers(t, "Write", b.p.Write(b.sectorAt(i), b.now.data[i]), api.OK)
		b.fits(b.sectorAt(i))
	default:
		for _, i := range b.nobodys(14 - len(b.written) + r.Intn(3)) {
			if b.fits(i) {
				b.write(t, i)
			}
		}
	}
}

// step does one thing by chance.
func (b *bench) step(t *testing.T, r *rand.Rand) {
	t.Helper()
	s := b.stores[r.Intn(2)]
	n := r.Intn(100)
	switch {
	case b.broken && n < 88:
		n = 99
	case !b.open && n < 62 && r.Intn(3) > 0:
		// Most calls want a transaction.
		n = 70
	}
	switch {
	case n < 30:
		b.save(t, s, b.cipher(r))
	case n < 40:
		b.hold(t, s, b.digest(r))
	case n < 62:
		b.drop(t, s, b.digest(r))
	case n < 70:
		b.load(t, s, b.digest(r))
	case n < 78:
		b.begin(t)
	case n < 84:
		b.commit(t)
	case n < 86:
		b.undo(t)
	case n < 90:
		b.byOthers(t, r)
	case n < 92 && !b.trouble:
		b.trouble = true
		b.dieAt(t, max(0, r.Intn(90)-30))
	case b.broken || n < 93:
		b.revive(t, r)
	}
}

// look holds what the stores know, and what the transaction has written, against the model.
func (b *bench) look(t *testing.T, r *rand.Rand) {
	t.Helper()
	if b.broken {
		return
	}
	for _, s := range b.stores {
		if n := s.Chunks(); n != len(b.now.chunks) {
			t.Fatalf("Chunks = %d, want %d", n, len(b.now.chunks))
		}
		for range 3 {
			d, want := b.digest(r), 0
			if k := b.now.find(d); k >= 0 {
				want = b.now.chunks[k].count
			}
			if n := s.Count(d); n != want {
				t.Fatalf("Count = %d, want %d", n, want)
			}
		}
	}
	b.dirty(t, b.written...)
	if b.lost {
		return
	}
	// No disk is asked for what the transaction has written.
	l := append(pages(t, b.count, b.now.chunks, b.now.others...), b.now.data...)
	for _, i := range b.written {
		if i < 19+len(l) {
			b.has(t, i, l[i-19])
		}
	}
	if !b.d.Dead() {
		if got, e := b.m.List(); !slices.Equal(got, b.now.taken()) || e != api.OK {
			t.Fatalf("taken are %v, %d, want %v", got, e, b.now.taken())
		}
	}
}

func Test9_6AnyCallsAgreeWithAPlainList(t *testing.T) {
	for seed := range int64(80) {
		r := rand.New(rand.NewSource(seed))
		benches := []*bench{newBench(t, r), newBench(t, r), newBench(t, r)}
		for range 500 {
			b := benches[r.Intn(len(benches))]
			b.step(t, r)
			// All are looked at now and then, so that one is seen to be as it was while another one is used.
			b.look(t, r)
			if r.Intn(10) == 0 {
				for _, b := range benches {
					b.look(t, r)
				}
			}
		}
	}
}
