package pool_test

import (
	"math/rand"
	"slices"
	"testing"

	"strongbox/api"
	"strongbox/disk"
	"strongbox/pool"
)

// frees are the free sectors as a pool of a disk tells them.
func frees(t *testing.T, p *pool.Pool) []string {
	t.Helper()
	l := []string{}
	for i := 19; i < p.Size(); i++ {
		s, e := p.Read(i)
		answers(t, "Read", e, api.OK)
		l = append(l, s)
	}
	return l
}

// settled looks at a pool that was opened anew behind a commit in which the disk died at this act: it is there as a whole, or not at all; and the pool can be used.
func settled(t *testing.T, p *pool.Pool, was, would []string, at int) {
	t.Helper()
	got := frees(t, p)
	isOld, isNew := slices.Equal(got, was[19:]), slices.Equal(got, would[19:])
	if !isOld && !isNew {
		t.Fatalf("dead at %d: neither whole nor undone", at)
	}
	if at < 19 && !isOld {
		t.Fatalf("dead at %d: done", at)
	}
	if at > 19 && !isNew {
		t.Fatalf("dead at %d: undone", at)
	}
	committed(t, p, 90)
	reads(t, p, 90, text(90))
}

func Test6_9ADeathInACommitLeavesAllOrNothing(t *testing.T) {
	r := rand.New(rand.NewSource(1))
	for _, row := range rows() {
		was := behind(image(128), 40, 41)
		would := behind2(was, row...)
		for at := 0; at <= 38; at++ {
			for choice := range 7 {
				d, p := clean(t, 3)
				committed(t, p, 40, 41)
				dyingCommit(t, d, p, at, row)
				answers(t, "Crash", d.Crash(keeps(r, d.Pending())[choice]), api.OK)
				settled(t, opened(t, d, choice), was, would, at)
			}
		}
	}
}

// behind2 is an image in which these sectors have their second texts.
func behind2(l []string, sectors ...int) []string {
	l = slices.Clone(l)
	for _, i := range sectors {
		l[i] = text(5000 + i)
	}
	return l
}

// dyingCommit commits second texts on a disk that dies at this act.
func dyingCommit(t *testing.T, d *disk.Disk, p *pool.Pool, at int, row []int) {
	t.Helper()
	answers(t, "Begin", p.Begin(), api.OK)
	for _, i := range row {
		answers(t, "Write", p.Write(i, text(5000+i)), api.OK)
	}
	dieAt(t, d, at)
	answers(t, "Commit", p.Commit(), api.ErrDead)
}

func Test6_9ADeathInACommitWhicheverOneWriteStays(t *testing.T) {
	row := from(30, 16)
	was, would := image(128), behind2(image(128), row...)
	for at := 1; at <= 38; at++ {
		for n := range 16 {
			for _, but := range []bool{false, true} {
				d, p := clean(t, 3)
				dyingCommit(t, d, p, at, row)
				if n >= d.Pending() {
					continue
				}
				keep := []int{n}
				if but {
					keep = slices.Delete(upTo(d.Pending()), n, n+1)
				}
				answers(t, "Crash", d.Crash(keep), api.OK)
				settled(t, opened(t, d, 3), was, would, at)
			}
		}
	}
}

func Test6_9ManyDeathsOneBehindTheOther(t *testing.T) {
	for seed := range int64(1000) {
		r := rand.New(rand.NewSource(seed))
		row := rows()[r.Intn(len(rows()))]
		at := 1 + r.Intn(38)
		d, p := clean(t, 3)
		dyingCommit(t, d, p, at, row)
		for p = nil; p == nil; {
			answers(t, "Crash", d.Crash(picks(r, d.Pending())), api.OK)
			answers(t, "Arm", d.Arm(r.Intn(22)), api.OK)
			q, e := pool.Open(d, 3)
			if (q == nil) != (e == api.ErrDead) || (q != nil) != (e == api.OK) {
				t.Fatalf("Open = %v, %d", q, e)
			}
			p = q
		}
		answers(t, "Arm", d.Arm(0), api.OK)
		settled(t, p, image(128), behind2(image(128), row...), at)
	}
}

func Test6_9ACommitThatIsOKOutlivesACrash(t *testing.T) {
	for _, row := range rows() {
		d, p := clean(t, 3)
		committed(t, p, row...)
		begun(t, p, 50, 51)
		answers(t, "Crash", d.Crash(nil), api.OK)
		tellsFree(t, opened(t, d, 3), behind(image(128), row...))
	}
}

func Test6_9AnOpenTransactionIsGoneBehindACrash(t *testing.T) {
	d, p := clean(t, 3)
	begun(t, p, from(30, 16)...)
	kill(t, d)
	answers(t, "Crash", d.Crash(nil), api.OK)
	q := opened(t, d, 3)
	dirty(t, q)
	answers(t, "Commit", q.Commit(), api.ErrPoolNone)
	tellsFree(t, q, image(128))
}

func Test6_9ReadsAreTheSameWithWhateverKeep(t *testing.T) {
	var pools []*pool.Pool
	for keep := range 65 {
		_, p := clean(t, keep)
		pools = append(pools, p)
	}
	r := rand.New(rand.NewSource(3))
	want := image(128)
	for range 30 {
		row := rows()[r.Intn(len(rows()))]
		base, commits := r.Intn(1<<20), r.Intn(2) == 0
		for _, p := range pools {
			answers(t, "Begin", p.Begin(), api.OK)
			for _, i := range row {
				answers(t, "Write", p.Write(i, text(base+i)), api.OK)
				reads(t, p, i, text(base+i))
			}
			if commits {
				answers(t, "Commit", p.Commit(), api.OK)
			} else {
				answers(t, "Abort", p.Abort(), api.OK)
			}
		}
		for _, i := range row {
			if commits {
				want[i] = text(base + i)
			}
		}
		for range 20 {
			i := 19 + r.Intn(109)
			for _, p := range pools {
				reads(t, p, i, want[i])
			}
		}
	}
}
