package tenant_test

import (
	"math/rand"
	"slices"
	"testing"

	"strongbox/api"
	"strongbox/disk"
	"strongbox/pool"
)

// transactions are what some do to a sample: none of their calls is refused.
func transactions() [][]call {
	return [][]call{
		{},
		{add(2, 56)},
		{add(7, 0)},
		{remove(3)},
		{charge(1, 80)},
		{charge(1, 0)},
		{charge(4, -300)},
		{addVolume(3, 99, 1023)},
		{removeVolume(6, 99)},
		{removeVolume(6, 99), remove(6), add(6, 77), charge(6, 7), addVolume(6, 0, 0)},
		{add(2, 1), add(5, 2), add(7, 3), charge(1, 1), remove(3), removeVolume(4, 0), addVolume(6, 1, 1), addVolume(8, 1, 2)},
	}
}

// doesAll does all calls of a transaction; what stands then.
func (w *parts) doesAll(t *testing.T, calls []call) state {
	t.Helper()
	m := sample()
	for _, c := range calls {
		w.does(t, c)
		_, m = m.asked(c, room)
	}
	return m
}

func TestT8AnAbortTakesBackWhatItsTransactionDid(t *testing.T) {
	for _, calls := range transactions() {
		for _, keep := range []int{0, 1, 64} {
			w := made(t, keep, room, sample())
			was := w.d.Image()
			w.begin(t)
			m := w.doesAll(t, calls)
			w.tells(t, m)
			w.sees(t, m)
			w.abort(t)
			w.tells(t, sample())
			w.sees(t, sample())
			if len(w.d.Trace()) != 0 || !slices.Equal(w.d.Image(), was) {
				t.Fatalf("acts %v", w.d.Trace())
			}
			// It can be used.
			w.begin(t)
			w.tells(t, sample())
			w.doesAll(t, calls)
			w.tells(t, m)
		}
	}
}

// An Abort takes back no more than its own transaction.
func TestT8AnAbortLeavesWhatWasCommittedAheadOfIt(t *testing.T) {
	for _, first := range transactions() {
		for _, second := range []call{add(2, 0), charge(8, 1), removeVolume(4, 99), remove(3), addVolume(1, 0, 9)} {
			w := made(t, 2, room, sample())
			w.begin(t)
			m := w.doesAll(t, first)
			w.commit(t)
			w.begin(t)
			now := w.follows(t, second, m)
			w.tells(t, now)
			w.abort(t)
			w.tells(t, m)
			w.sees(t, m)
		}
	}
}

func TestT8ACommitLetsItAllLast(t *testing.T) {
	for _, calls := range transactions() {
		for _, keep := range []int{0, 1, 64} {
			w := made(t, keep, room, sample())
			v := over(t, w.d, w.p, 19, room)
			w.begin(t)
			m := w.doesAll(t, calls)
			// What is not committed is not on the disk.
			opened(t, w.d, keep, room).tells(t, sample())
			v.tells(t, m)
			w.commit(t)
			w.tells(t, m)
			v.tells(t, m)
			w.sees(t, m)
			opened(t, w.d, keep, room).tells(t, m)
			opened(t, loaded(t, w.d.Image()), keep, room).tells(t, m)
			answers(t, "Crash", w.d.Crash(nil), api.OK)
			again := opened(t, w.d, keep, room)
			again.tells(t, m)
			again.sees(t, m)
		}
	}
}

func TestT8ACommitLeavesOtherSectorsAsTheyWere(t *testing.T) {
	for _, calls := range transactions() {
		w := made(t, 4, room, sample())
		was := w.d.Image()
		w.begin(t)
		m := w.doesAll(t, calls)
		w.commit(t)
		if now := w.d.Image(); !slices.Equal(now[19:27], m.pages(t)) || !slices.Equal(now[27:], was[27:]) {
			t.Fatal("other sectors are changed")
		}
	}
}

func TestT8AnOpenTransactionIsGoneBehindACrash(t *testing.T) {
	for _, calls := range transactions() {
		w := made(t, 3, room, sample())
		w.begin(t)
		w.doesAll(t, calls)
		w.kill(t)
		answers(t, "Crash", w.d.Crash(nil), api.OK)
		opened(t, w.d, 3, room).tells(t, sample())
	}
}

// dieAt lets a disk die at its n-th act from now on; 0: it is dead.
func (w *parts) dieAt(t *testing.T, n int) {
	t.Helper()
	if n == 0 {
		w.kill(t)
		return
	}
	answers(t, "Arm", w.d.Arm(n), api.OK)
}

// keeps are choices among so many pending writes: none, all, each second one, the first and the last half, and by chance.
func keeps(r *rand.Rand, pending int) [][]int {
	all := upTo(pending)
	even := slices.DeleteFunc(upTo(pending), func(n int) bool { return n%2 == 1 })
	odd := slices.DeleteFunc(upTo(pending), func(n int) bool { return n%2 == 0 })
	return [][]int{nil, all, even, odd, all[:pending/2], all[pending/2:], some(r, pending, 2)}
}

// isDead looks at a table whose disk died in a Commit.
func (w *parts) isDead(t *testing.T) {
	t.Helper()
	for range 2 {
		for _, k := range []int{1, 2, 4, 8} {
			for _, c := range everyCall(k) {
				want := api.ErrDead
				if c.changes() {
					want = api.ErrPoolNone
				}
				w.refuses(t, c, want)
			}
		}
		w.refuses(t, get(0), api.ErrArg)
		w.refuses(t, add(9, 0), api.ErrArg)
		answers(t, "Begin", w.p.Begin(), api.ErrDead)
		refused(t, w.p, 19, room, api.ErrDead)
	}
}

// isOnDisk tells whether just this lasts.
func (w *parts) isOnDisk(t *testing.T, m state) bool {
	t.Helper()
	return slices.Equal(w.d.Image()[w.at:w.at+8], m.pages(t))
}

// outlines holds what a table tells against a plain list, by a few calls.
func (w *parts) outlines(t *testing.T, m state) {
	t.Helper()
	w.follows(t, list(), m)
	w.follows(t, left(), m)
	for k := 1; k <= 8; k++ {
		w.follows(t, get(k), m)
	}
}

// settled looks at a table that is opened anew behind a commit in which the disk died at this act.
func settled(t *testing.T, d *disk.Disk, act int, want state) {
	t.Helper()
	w := opened(t, d, 3, room)
	isOld, isNew := w.isOnDisk(t, sample()), w.isOnDisk(t, want)
	if !isOld && !isNew || act < 19 && !isOld || act > 19 && !isNew {
		t.Fatalf("dead at %d: neither the old nor the new stands", act)
	}
	m := want
	if isOld && !isNew {
		m = sample()
	}
	w.outlines(t, m)
	// It can be used.
	w.begin(t)
	m = w.follows(t, charge(8, 40), m)
	m = w.follows(t, removeVolume(8, 70), m)
	w.commit(t)
	w.outlines(t, m)
	opened(t, d, 3, room).sees(t, m)
}

func TestT8ADeathInACommitLeavesTheOldOrTheNewAsAWhole(t *testing.T) {
	r := rand.New(rand.NewSource(1))
	for _, calls := range transactions() {
		for n := range 39 {
			for choice := range 7 {
				w := made(t, choice, room, sample())
				w.begin(t)
				m := w.doesAll(t, calls)
				w.dieAt(t, n)
				answers(t, "Commit", w.p.Commit(), api.ErrDead)
				w.isDead(t)
				answers(t, "Crash", w.d.Crash(keeps(r, w.d.Pending())[choice]), api.OK)
				w.isDead(t)
				settled(t, w.d, n, m)
			}
		}
	}
}

func TestT8ManyDeathsOneBehindTheOther(t *testing.T) {
	for seed := range int64(300) {
		r := rand.New(rand.NewSource(seed))
		n := 1 + r.Intn(38)
		w := made(t, 3, room, sample())
		w.begin(t)
		m := w.doesAll(t, transactions()[r.Intn(len(transactions()))])
		w.dieAt(t, n)
		answers(t, "Commit", w.p.Commit(), api.ErrDead)
		for p := (*pool.Pool)(nil); p == nil; {
			answers(t, "Crash", w.d.Crash(some(r, w.d.Pending(), 2)), api.OK)
			answers(t, "Arm", w.d.Arm(r.Intn(22)), api.OK)
			p, _ = pool.Open(w.d, 3)
		}
		answers(t, "Arm", w.d.Arm(0), api.OK)
		settled(t, w.d, n, m)
	}
}
