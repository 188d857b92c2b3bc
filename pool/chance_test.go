package pool_test

import (
	"math/rand"
	"slices"
	"testing"

	"strongbox/api"
	"strongbox/disk"
	"strongbox/pool"
)

// bench is a disk, a pool of it, its model, and what is known of the disk's death.
type bench struct {
	d     *disk.Disk
	p     *pool.Pool
	m     *model
	fuse  int
	acts  int
	would []string // what the commit in which the disk died would have made; nil, if there was none
	died  int      // at which of its acts
}

func newBench(t *testing.T, r *rand.Rand) *bench {
	t.Helper()
	d := loaded(t, image(128+r.Intn(4)))
	keep := someKeep(r)
	return &bench{d: d, p: opened(t, d, keep), m: newModel(d, keep)}
}

func someKeep(r *rand.Rand) int { return []int{0, 1, 2, 3, 5, 8, 64}[r.Intn(7)] }

// sector is one by chance, so that some come often and some are none.
func (b *bench) sector(r *rand.Rand) int {
	size := b.d.Size()
	return []int{-1, 0, 1, 2, 18, 19, 20, 21, 22, 23, 24, 25, 26, size - 1, size}[r.Intn(15)]
}

// commit commits, and holds the answer and the acts against the model.
func (b *bench) commit(t *testing.T) {
	t.Helper()
	acts, would, live := commitActs(b.m.sectors()...), b.m.would(), b.m.open && !b.m.lost
	dies := b.d.Dead() || b.fuse > 0 && b.fuse <= len(acts)
	answers(t, "Commit", b.p.Commit(), b.m.commit(dies))
	switch {
	case !live || b.fuse == 0 && dies:
		acts = nil
	case dies:
		acts, b.would, b.died = acts[:b.fuse-1], would, b.fuse
		b.fuse = 0
	case b.fuse > 0:
		b.fuse -= len(acts)
	}
	did(t, b.d, b.acts, acts)
	b.acts += len(acts)
}

// reopen crashes the disk and opens a pool anew, and holds all that it tells against the model's image, or against that of the commit which was broken off.
func (b *bench) reopen(t *testing.T, r *rand.Rand) {
	t.Helper()
	answers(t, "Crash", b.d.Crash(picks(r, b.d.Pending())), api.OK)
	keep := someKeep(r)
	b.p = opened(t, b.d, keep)
	image := b.m.image
	b.m, b.fuse, b.acts = newModel(b.d, keep), 0, len(b.d.Trace())
	isOld := slices.Equal(b.m.image[19:], image[19:])
	isNew := b.would != nil && slices.Equal(b.m.image[19:], b.would[19:])
	if b.would == nil && !isOld || b.would != nil && (!isOld && !isNew || b.died < 19 && !isOld || b.died > 19 && !isNew) {
		t.Fatalf("behind a crash (dead at %d) the sectors are others", b.died)
	}
	b.would, b.died = nil, 0
}

// step does one thing by chance.
func (b *bench) step(t *testing.T, r *rand.Rand) {
	t.Helper()
	switch k := r.Intn(200); {
	case k < 25:
		answers(t, "Begin", b.p.Begin(), b.m.begin())
	case k < 90:
		i := b.sector(r)
		want, e := b.m.read(i)
		if s, errno := b.p.Read(i); s != want || errno != e {
			t.Fatalf("Read(%d) = %.16q, %d, want %.16q, %d", i, s, errno, want, e)
		}
	case k < 150:
		i, s := b.sector(r), text(r.Intn(1 << 30))[:256-r.Intn(12)/11]
		answers(t, "Write", b.p.Write(i, s), b.m.write(i, s))
	case k < 155:
		for _, i := range from(30, 5+r.Intn(10)) {
			s := text(r.Intn(1 << 30))
			answers(t, "Write", b.p.Write(i, s), b.m.write(i, s))
		}
	case k < 175:
		b.commit(t)
	case k < 185:
		answers(t, "Abort", b.p.Abort(), b.m.abort())
	case k < 190:
		if n := r.Intn(60); b.d.Arm(n) == api.OK {
			b.fuse = n
		}
	case k < 191:
		b.d.Arm(1)
		b.d.Flush()
		b.fuse = 0
	case b.m.lost || k < 193:
		b.reopen(t, r)
	default:
		// One beside it that is let be.
		if q, e := pool.Open(b.d, someKeep(r)); e == api.OK {
			q.Begin()
			q.Write(19+r.Intn(9), text(r.Intn(1<<30)))
			q.Read(19 + r.Intn(9))
		}
	}
}

func Test6_9AnyCallsAnswerAsTheModelDoes(t *testing.T) {
	for seed := range int64(60) {
		r := rand.New(rand.NewSource(seed))
		benches := []*bench{newBench(t, r), newBench(t, r), newBench(t, r)}
		for range 1200 {
			benches[r.Intn(len(benches))].step(t, r)
			// All are looked at, so that one is seen to be as it was while another one is used.
			for _, b := range benches {
				same(t, b.p, b.m)
				if len(b.d.Trace()) != b.acts {
					t.Fatalf("seed %d: %d acts, want %d", seed, len(b.d.Trace()), b.acts)
				}
			}
		}
	}
}
