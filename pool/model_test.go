package pool_test

import (
	"math/rand"
	"slices"
	"strings"
	"testing"

	"strongbox/api"
	"strongbox/disk"
	"strongbox/journal"
	"strongbox/pool"
)

// model is a pool by the chapter's words. Of the journal's sectors it asks the disk, for these its commits write below it.
type model struct {
	d     *disk.Disk
	keep  int
	image []string    // what was committed
	hand  []api.Write // the newest first
	dirty []api.Write // in whatever order
	open  bool
	lost  bool
	stats api.Stats
}

func newModel(d *disk.Disk, keep int) *model {
	return &model{d: d, keep: keep, image: now(d)}
}

// now is all sectors of a disk that lives, as they were written last.
func now(d *disk.Disk) []string {
	l := make([]string, d.Size())
	for i := range l {
		l[i], _ = d.Read(i)
	}
	return l
}

// at is where a sector stands in a list; -1, if it is not there.
func at(l []api.Write, i int) int {
	return slices.IndexFunc(l, func(w api.Write) bool { return w.Sector == i })
}

// laid is a list with a write in front of it, and nowhere else.
func laid(l []api.Write, w api.Write) []api.Write {
	front := []api.Write{w}
	for _, other := range l {
		if other.Sector != w.Sector {
			front = append(front, other)
		}
	}
	return front
}

func (m *model) lay(w api.Write) {
	m.hand = laid(m.hand, w)
	m.hand = m.hand[:min(len(m.hand), m.keep)]
	m.stats.Kept = len(m.hand)
}

func (m *model) begin() api.Errno {
	if m.open {
		return api.ErrPoolOpen
	}
	if m.lost {
		return api.ErrDead
	}
	m.open = true
	return api.OK
}

func (m *model) read(i int) (string, api.Errno) {
	if i < 0 || i >= len(m.image) {
		return "", api.ErrDiskSector
	}
	if m.lost {
		return "", api.ErrDead
	}
	if n := at(m.dirty, i); n >= 0 {
		return m.dirty[n].Bytes, api.OK
	}
	if n := at(m.hand, i); n >= 0 {
		m.stats.Hits++
		m.lay(m.hand[n])
		return m.hand0(), api.OK
	}
	if m.d.Dead() {
		m.lost = true
		return "", api.ErrDead
	}
	s := m.image[i]
	if i < 19 {
		s, _ = m.d.Read(i)
	}
	m.stats.Misses++
	m.lay(api.Write{Sector: i, Bytes: s})
	return s, api.OK
}

// hand0 is the bytes of the newest sector at hand.
func (m *model) hand0() string { return m.hand[0].Bytes }

func (m *model) write(i int, s string) api.Errno {
	switch {
	case i < 0 || i >= len(m.image):
		return api.ErrDiskSector
	case i < 19:
		return api.ErrJournalPlace
	case len(s) != 256:
		return api.ErrDiskBytes
	case !m.open:
		return api.ErrPoolNone
	case m.lost:
		return api.ErrDead
	case at(m.dirty, i) < 0 && len(m.dirty) == 16:
		return api.ErrPoolFull
	}
	m.dirty = laid(m.dirty, api.Write{Sector: i, Bytes: s})
	return api.OK
}

// rising is what the transaction has written, by rising sectors.
func (m *model) rising() []api.Write {
	return slices.SortedFunc(slices.Values(m.dirty), func(a, b api.Write) int { return a.Sector - b.Sector })
}

func (m *model) sectors() []int {
	l := []int{}
	for _, w := range m.rising() {
		l = append(l, w.Sector)
	}
	return l
}

// would is the image that a commit would make.
func (m *model) would() []string {
	l := slices.Clone(m.image)
	for _, w := range m.dirty {
		l[w.Sector] = w.Bytes
	}
	return l
}

// commit commits; dies tells that the disk is dead, or dies in it.
func (m *model) commit(dies bool) api.Errno {
	if !m.open {
		return api.ErrPoolNone
	}
	l, image := m.rising(), m.would()
	m.open, m.dirty = false, nil
	if m.lost {
		return api.ErrDead
	}
	if dies {
		m.lost, m.hand, m.stats.Kept = true, nil, 0
		return api.ErrDead
	}
	m.image = image
	for _, w := range l {
		m.lay(w)
	}
	return api.OK
}

func (m *model) abort() api.Errno {
	if !m.open {
		return api.ErrPoolNone
	}
	m.open, m.dirty = false, nil
	return api.OK
}

// same holds all that a pool tells without being changed against its model.
func same(t *testing.T, p *pool.Pool, m *model) {
	t.Helper()
	if s := p.Stats(); s != m.stats {
		t.Fatalf("Stats = %+v, want %+v", s, m.stats)
	}
	if l := p.Dirty(); !slices.Equal(l, m.sectors()) {
		t.Fatalf("Dirty = %v, want %v", l, m.sectors())
	}
	if n := p.Size(); n != len(m.image) {
		t.Fatalf("Size = %d, want %d", n, len(m.image))
	}
}

// fill is a sector's bytes, all the same.
func fill(b byte) string { return strings.Repeat(string([]byte{b}), 256) }

// text is a sector's bytes that have this number: no two numbers have the same ones.
func text(n int) string {
	b := make([]byte, 256)
	for i := range b {
		b[i] = byte(n>>(i%4*8)) ^ byte(7*i+1)
	}
	return string(b)
}

// image is one of so many sectors, each of its own bytes, but for the journal's head, which is clear.
func image(n int) []string {
	l := make([]string, n)
	for i := range l {
		l[i] = text(1000000 + i)
	}
	d, _ := disk.Load(l)
	journal.Format(d)
	return d.Image()
}

func loaded(t *testing.T, l []string) *disk.Disk {
	t.Helper()
	d, e := disk.Load(l)
	if d == nil || e != api.OK {
		t.Fatalf("Load of %d = %v, %d", len(l), d, e)
	}
	return d
}

func opened(t *testing.T, d *disk.Disk, keep int) *pool.Pool {
	t.Helper()
	p, e := pool.Open(d, keep)
	if p == nil || e != api.OK {
		t.Fatalf("Open with %d = %v, %d, want a pool, OK", keep, p, e)
	}
	return p
}

// clean is a disk of 128 sectors, each of its own bytes, and a pool of it.
func clean(t *testing.T, keep int) (*disk.Disk, *pool.Pool) {
	t.Helper()
	d := loaded(t, image(128))
	return d, opened(t, d, keep)
}

// answers holds an answer that is an error alone against what it must be.
func answers(t *testing.T, what string, got, want api.Errno) {
	t.Helper()
	if got != want {
		t.Fatalf("%s = %d, want %d", what, got, want)
	}
}

func reads(t *testing.T, p *pool.Pool, i int, want string) {
	t.Helper()
	if s, e := p.Read(i); s != want || e != api.OK {
		t.Fatalf("Read(%d) = %.16q, %d, want %.16q, OK", i, s, e, want)
	}
}

func refusesRead(t *testing.T, p *pool.Pool, i int, want api.Errno) {
	t.Helper()
	if s, e := p.Read(i); s != "" || e != want {
		t.Fatalf("Read(%d) = %.16q, %d, want nothing, %d", i, s, e, want)
	}
}

func counts(t *testing.T, p *pool.Pool, hits, misses, kept int) {
	t.Helper()
	if s := p.Stats(); s != (api.Stats{Hits: hits, Misses: misses, Kept: kept}) {
		t.Fatalf("Stats = %+v, want %d, %d, %d", s, hits, misses, kept)
	}
}

func dirty(t *testing.T, p *pool.Pool, want ...int) {
	t.Helper()
	if l := p.Dirty(); !slices.Equal(l, want) {
		t.Fatalf("Dirty = %v, want %v", l, want)
	}
}

// begun begins a transaction and writes some sectors, each with its text.
func begun(t *testing.T, p *pool.Pool, sectors ...int) {
	t.Helper()
	answers(t, "Begin", p.Begin(), api.OK)
	for _, i := range sectors {
		answers(t, "Write", p.Write(i, text(i)), api.OK)
	}
}

// committed is a transaction that writes some sectors, each with its text.
func committed(t *testing.T, p *pool.Pool, sectors ...int) {
	t.Helper()
	begun(t, p, sectors...)
	answers(t, "Commit", p.Commit(), api.OK)
}

// kill lets a disk die without an act.
func kill(t *testing.T, d *disk.Disk) {
	t.Helper()
	answers(t, "Arm", d.Arm(1), api.OK)
	answers(t, "Flush", d.Flush(), api.ErrDead)
}

// lose lets a pool answer ErrDead to a Read of a sector that it has not at hand.
func lose(t *testing.T, d *disk.Disk, p *pool.Pool, i int) {
	t.Helper()
	kill(t, d)
	refusesRead(t, p, i, api.ErrDead)
}

// isHit tells whether a Read of a sector is a hit; it must be that or a miss.
func isHit(t *testing.T, p *pool.Pool, i int) bool {
	t.Helper()
	was := p.Stats()
	if _, e := p.Read(i); e != api.OK {
		t.Fatalf("Read(%d) = %d", i, e)
	}
	is := p.Stats()
	if is.Hits+is.Misses != was.Hits+was.Misses+1 {
		t.Fatalf("Read(%d): Stats from %+v to %+v", i, was, is)
	}
	return is.Hits > was.Hits
}

// holds looks which of the sectors below 100 are at hand in a pool that is made again and again, and in which order: the further behind a sector is, the fewer other ones must come until it has gone.
func holds(t *testing.T, keep int, make func() *pool.Pool, want ...int) {
	t.Helper()
	if n := make().Stats().Kept; n != len(want) {
		t.Fatalf("%d are kept, want %d", n, len(want))
	}
	for i := range 100 {
		for others := range keep + 1 {
			p := make()
			for k := range others {
				if isHit(t, p, 100+k) {
					t.Fatalf("sector %d is at hand", 100+k)
				}
			}
			place := slices.Index(want, i)
			if hit := isHit(t, p, i); hit != (place >= 0 && place+others < keep) {
				t.Fatalf("sector %d behind %d others: a hit is %v; at hand must be %v", i, others, hit, want)
			}
		}
	}
}

// upTo are the numbers below n.
func upTo(n int) []int {
	l := []int{}
	for i := range n {
		l = append(l, i)
	}
	return l
}

// from are so many numbers from the first on.
func from(first, many int) []int {
	l := upTo(many)
	for i := range l {
		l[i] += first
	}
	return l
}

// picks are by chance some of so many pending writes.
func picks(r *rand.Rand, pending int) []int {
	return slices.DeleteFunc(upTo(pending), func(int) bool { return r.Intn(2) == 0 })
}

// keeps are choices among so many pending writes: none, all, each second one, the first and the last half, and by chance.
func keeps(r *rand.Rand, pending int) [][]int {
	all := upTo(pending)
	even := slices.DeleteFunc(upTo(pending), func(n int) bool { return n%2 == 1 })
	odd := slices.DeleteFunc(upTo(pending), func(n int) bool { return n%2 == 0 })
	return [][]int{nil, all, even, odd, all[:pending/2], all[pending/2:], picks(r, pending)}
}

// commitActs are those of a commit of these sectors.
func commitActs(sectors ...int) []api.Act {
	var l []api.Act
	for i := range 16 {
		l = append(l, api.Act{Kind: 1, Sector: 2 + i})
	}
	l = append(l, api.Act{Kind: 2}, api.Act{Kind: 1, Sector: 1}, api.Act{Kind: 2})
	return append(l, redoActs(sectors...)...)
}

// redoActs are those of an Open that ends a commit of these sectors.
func redoActs(sectors ...int) []api.Act {
	var l []api.Act
	for i := range 16 {
		home := 18
		if i < len(sectors) {
			home = sectors[i]
		}
		l = append(l, api.Act{Kind: 1, Sector: home})
	}
	return append(l, api.Act{Kind: 2}, api.Act{Kind: 1, Sector: 1}, api.Act{Kind: 2})
}

// did holds the acts behind the first ones against what they must be.
func did(t *testing.T, d *disk.Disk, from int, want []api.Act) {
	t.Helper()
	if got := d.Trace()[from:]; !slices.Equal(got, want) {
		t.Fatalf("acts %v, want %v", got, want)
	}
}
