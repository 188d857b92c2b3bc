package journal_test

import (
	"math/rand"
	"slices"
	"testing"

	"strongbox/api"
	"strongbox/disk"
	"strongbox/journal"
)

// living is a disk by the chapters' words, which dies where it is armed to.
type living struct {
	plain
	acts []api.Act
	fuse int
	dead bool
}

// do does steps, until the disk is dead.
func (m *living) do(steps []step) api.Errno {
	for _, s := range steps {
		if m.dead || m.fuse == 1 {
			m.dead, m.fuse = true, 0
			return api.ErrDead
		}
		if m.fuse > 0 {
			m.fuse--
		}
		m.plain.do([]step{s})
		m.acts = append(m.acts, acts([]step{s})...)
	}
	return api.OK
}

// reads is a sector as it was written last.
func (m *living) reads(i int) string { return after(m.lasting, m.pending)[i] }

// bench is a disk and its model; with them a journal, if one was opened, and what is known of it.
type bench struct {
	d    *disk.Disk
	m    *living
	j    *journal.Journal
	next int
	lost bool
}

// headTargets are those of a head that the bench's own steps have written; false, if it is none.
func (b *bench) headTargets() (number int, targets []int, ok bool) {
	head := b.m.reads(1)
	for n := range 60 {
		number := (n + 4294967280) % 4294967296
		if head == clearHead(number) {
			return number, nil, true
		}
		if head[:8] == setHead(number, upTo16()...)[:8] {
			for i := range 16 {
				targets = append(targets, int(head[9+4*i+2])<<8|int(head[9+4*i+3]))
			}
			return number, targets, true
		}
	}
	return 0, nil, false
}

// open opens the bench's disk anew, and holds what comes against the model.
func (b *bench) open(t *testing.T) {
	t.Helper()
	number, targets, ok := b.headTargets()
	want := api.OK
	switch {
	case b.m.dead:
		want = api.ErrDead
	case !ok:
		want = api.ErrJournalForm
	case targets != nil:
		records := []string{}
		for i := range 16 {
			records = append(records, b.m.reads(2+i))
		}
		want = b.m.do(redoSteps(number, targets, records))
	}
	j, again, e := journal.Open(b.d)
	if e != want || (j != nil) != (e == api.OK) || again != (e == api.OK && targets != nil) {
		t.Fatalf("Open = %v, %v, %d, want %d", j, again, e, want)
	}
	if j != nil {
		b.j, b.next, b.lost = j, (number+1)%4294967296, false
	}
}

// commit commits a list by chance, and holds what comes against the model.
func (b *bench) commit(t *testing.T, r *rand.Rand) {
	t.Helper()
	fault := func(n int) int {
		if r.Intn(10) > 0 {
			return -1
		}
		return r.Intn(n)
	}
	n := 2 + r.Intn(15)
	if r.Intn(10) == 0 {
		n = 17
	}
	place, twice, bytes := fault(n), fault(n), fault(n)
	l := faulty(n, place, twice, bytes)
	if place < 0 && twice < 0 {
		shift := r.Intn(50)
		for i := range l {
			l[i].Sector += shift
			l[i].Bytes = text(r.Intn(1 << 30))[:len(l[i].Bytes)]
		}
	}
	want := firstFault(n, place, twice, bytes, b.lost)
	if want == api.OK {
		want = b.m.do(commitSteps(b.next, l))
	}
	answers(t, "Commit", b.j.Commit(l), want)
	switch want {
	case api.OK:
		b.next = (b.next + 1) % 4294967296
	case api.ErrDead:
		b.lost = true
	}
}

// step does one thing by chance.
func (b *bench) step(t *testing.T, r *rand.Rand) {
	t.Helper()
	switch k := r.Intn(40); {
	case k < 16 && b.j != nil:
		b.commit(t, r)
	case k < 24:
		b.open(t)
	case k < 25:
		answers(t, "Format", journal.Format(b.d), b.m.do(formatSteps()))
	case k < 27:
		head := []string{text(3), clearHead(4294967290 + r.Intn(6)), page(4, 0, "\x00")}[r.Intn(3)]
		answers(t, "Write", b.d.Write(1, head), b.m.do([]step{{1, head}}))
	case k < 32:
		if n := r.Intn(60); b.d.Arm(n) == api.OK {
			b.m.fuse = n
		}
	default:
		keep := picks(r, b.d.Pending())
		answers(t, "Crash", b.d.Crash(keep), api.OK)
		b.m.crash(keep)
		b.m.dead, b.m.fuse = false, 0
	}
}

func TestJ3AnyCallsAnswerAsTheModelDoes(t *testing.T) {
	for seed := range int64(40) {
		r := rand.New(rand.NewSource(seed))
		var benches []*bench
		for range 3 {
			l := image(128+r.Intn(9), clearHead(4294967290+r.Intn(6)))
			benches = append(benches, &bench{d: loaded(t, l), m: &living{plain: *plainly(l)}})
		}
		for range 100 {
			benches[r.Intn(len(benches))].step(t, r)
			// All are looked at, so that one is seen to be as it was while another one is used.
			for _, b := range benches {
				stands(t, b.d, &b.m.plain)
				if !slices.Equal(b.d.Trace(), b.m.acts) || b.d.Dead() != b.m.dead {
					t.Fatalf("seed %d: the acts are others than the model's", seed)
				}
				if b.j != nil {
					numbers(t, b.j, b.next)
				}
			}
		}
	}
}
