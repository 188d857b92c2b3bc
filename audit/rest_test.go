package audit_test

import (
	"fmt"
	"math/rand"
	"testing"

	"strongbox/api"
	"strongbox/server"
)

// P8 and A4: behind Format, of each size, and behind a Format of a disk that had something else.
func TestA4BehindFormat(t *testing.T) {
	for n := 128; n <= 1024; n += 7 {
		formatted(t, n).rests("behind Format")
	}
	h := furnished(t)
	isOK(t, "Format", server.Format(h.d))
	h.open()
	h.rests("behind a second Format")
}

// A disk that dies in a Format has no store, or the new one, or what it had: then there are no findings.
func TestA4DeathsInAFormat(t *testing.T) {
	base := furnished(t)
	came := map[string]int{}
	for act := 1; act <= 31; act++ {
		for _, of4 := range []int{0, 2, 4} {
			h := base.copied()
			isOK(t, "Arm", h.d.Arm(act))
			if e := server.Format(h.d); e != api.ErrDead {
				t.Fatalf("Format = %d", e)
			}
			isOK(t, "Crash", h.d.Crash(some(rand.New(rand.NewSource(int64(act))), h.d.Pending(), of4)))
			got, x, _ := agrees(t, "behind a death in Format", h.d.Image())
			came[fmt.Sprint(got, x.Chunks)]++
			if _, e := server.Open(h.d); (e == api.OK) != (len(got) == 0) {
				t.Errorf("dead at %d: found %v, Open = %d", act, got, e)
			}
		}
	}
	if len(came) != 3 || came["[] 3"] == 0 || came["[] 0"] == 0 || came["[{1 0}] 0"] < 50 {
		t.Errorf("what came: %v", came)
	}
}

// Behind each kind of request, answered Done or otherwise.
func TestA4BehindEachKindOfRequest(t *testing.T) {
	h := furnished(t)
	h.rests("furnished")
	ask := func(k int, r api.Request, want api.Status) {
		t.Helper()
		h.asks(k, r, want)
		h.rests(fmt.Sprintf("%d asked kind %d", k, r.Kind))
	}
	ask(0, add(3, 1), api.NoRoom)
	ask(0, add(3, 0), api.Done)
	ask(0, add(3, 0), api.Exists)
	ask(0, remove(1), api.NotEmpty)
	ask(0, api.Request{Kind: api.AskTenant, Tenant: 1}, api.Done)
	ask(1, api.Request{Kind: api.AskVolumes}, api.Done)
	ask(1, api.Request{Kind: api.AskStat}, api.Done)
	ask(1, vol(7), api.Exists)
	ask(3, vol(1), api.OverQuota)
	ask(1, vol(99), api.Done)
	ask(1, unvol(7), api.NotEmpty)
	ask(1, upload(7, 0, 11), api.Done)  // over one that stays
	ask(2, upload(9, 0, 11), api.Done)  // over one that goes
	ask(2, upload(9, 1, 20), api.Done)  // a new chunk
	ask(2, upload(7, 59, 20), api.Done) // a new leaf
	ask(2, upload(7, 60, 20), api.OutOfRange)
	ask(1, api.Request{Kind: api.AskRead, Volume: 7, Block: 0}, api.Done)
	for _, x := range []struct{ k, n, b, c int }{{1, 7, 2, 20}, {1, 99, 30, 20}, {2, 9, 59, 11}, {2, 9, 59, 11}} {
		r := h.offers(x.k, x.n, x.b, x.c)
		h.rests("behind an Offer")
		ask(x.k, r, api.Done)
		ask(x.k, r, api.Unmapped)
	}
	r := h.offers(1, 7, 5, 50)
	ask(1, r, api.Need)
	ask(1, trim(7, 5), api.Unmapped)
	ask(1, trim(7, 0), api.Done)
	ask(1, trim(99, 30), api.Done)
	ask(1, unvol(99), api.Done)
	ask(0, remove(3), api.Done)
	h.open()
	h.rests("behind Open")
	for k, l := range map[int][][2]int{1: {{7, 1}, {7, 2}, {7, 3}}, 2: {{9, 0}, {9, 1}, {9, 59}, {7, 59}}} {
		for _, b := range l {
			ask(k, trim(b[0], b[1]), api.Done)
		}
	}
	ask(1, unvol(7), api.Done)
	ask(2, unvol(7), api.Done)
	ask(2, unvol(9), api.Done)
	ask(0, remove(1), api.Done)
	ask(0, remove(2), api.Done)
	if x := finds(t, "behind all", h.d.Image()); x != (api.Totals{Capacity: 83}) {
		t.Errorf("totals %+v", x)
	}
}

// Where all that is promised is used up: each block has a chunk of its own.
func TestA4WhereNothingIsLeft(t *testing.T) {
	for _, sectors := range []int{128, 330, 1024} {
		h := formatted(t, sectors)
		left, _ := server.LayoutOf(sectors)
		for k := 1; k <= 8; k++ {
			quota := left.Capacity / 8
			if k == 8 {
				quota = left.Capacity - 7*quota
			}
			h.asks(0, add(k, quota), api.Done)
			h.asks(k, vol(k), api.Done)
			h.asks(k, vol(50+k), api.Done)
			for n := range 120 {
				h.sends(k, upload(k+n/60*50, n%60, 1000*k+n))
			}
		}
		h.rests("where nothing is left")
		if x, _ := h.s.Totals(); x.Charged+8 < x.Capacity || x.Chunks != x.Mapped {
			t.Errorf("totals %+v", x)
		}
	}
}

// changes are requests that change a furnished store, with what is to be asked ahead of them.
func changes() []func(h *store) (int, api.Request) {
	asked := func(k int, r api.Request) func(*store) (int, api.Request) {
		return func(*store) (int, api.Request) { return k, r }
	}
	proves := func(k, n, b, c int) func(*store) (int, api.Request) {
		return func(h *store) (int, api.Request) { return k, h.offers(k, n, b, c) }
	}
	return []func(h *store) (int, api.Request){
		asked(0, add(3, 0)), asked(0, remove(8)), asked(2, vol(1)), asked(2, unvol(7)),
		asked(1, upload(7, 0, 50)), asked(1, upload(7, 3, 50)), asked(1, upload(7, 59, 50)), asked(1, upload(7, 2, 11)), asked(1, upload(7, 0, 10)),
		proves(1, 7, 3, 10), proves(1, 7, 30, 12), proves(2, 9, 1, 10),
		asked(1, trim(7, 0)), asked(1, trim(7, 3)), asked(2, trim(9, 59)),
	}
}

// Behind deaths at each act, with crashes that keep some writes: behind Open nothing is found; ahead of it nothing but a head that is set, and what its commit has not written yet.
func TestA4DeathsAtEachAct(t *testing.T) {
	r := rand.New(rand.NewSource(16))
	base := furnished(t)
	base.asks(0, add(8, 0), api.Done)
	for n, ask := range changes() {
		for act := 1; act <= 38; act++ {
			for _, of4 := range []int{0, 1, 2, 3, 4} {
				h := base.copied()
				k, q := ask(h)
				isOK(t, "Arm", h.d.Arm(act))
				if _, e := h.sends(k, q); e != api.ErrDead {
					t.Fatalf("change %d, dying at %d: %d", n, act, e)
				}
				isOK(t, "Crash", h.d.Crash(some(r, h.d.Pending(), of4)))
				ahead, _, _ := agrees(t, "ahead of Open", h.d.Image())
				h.open()
				h.rests(fmt.Sprintf("change %d, dead at %d", n, act))
				if len(ahead) > 0 && (act < 19 || ahead[0] != f(api.FindJournal, 1)) {
					t.Errorf("change %d, dead at %d: ahead of Open %v", n, act, ahead)
				}
			}
		}
	}
}

// reopens lets a disk that died live again, and die while it is opened, as it comes, until it is open.
func (h *store) reopens(r *rand.Rand) {
	h.Helper()
	for h.s = nil; h.s == nil; {
		isOK(h.T, "Crash", h.d.Crash(some(r, h.d.Pending(), r.Intn(5))))
		isOK(h.T, "Arm", h.d.Arm(r.Intn(25)))
		h.s, _ = server.Open(h.d)
	}
	isOK(h.T, "Arm", h.d.Arm(0))
}

// anything is who asks, and what: few volumes, blocks and chunks, so that they meet.
func (h *store) anything(r *rand.Rand) (int, api.Request) {
	k := []int{1, 1, 2, 2, 3, 8}[r.Intn(6)]
	n := []int{1, 1, 1, 1, 99}[r.Intn(5)]
	b := []int{0, 0, 1, 1, 2, 3, 58, 59, 60, r.Intn(60)}[r.Intn(10)]
	c := r.Intn(6)
	switch r.Intn(24) {
	case 0, 1:
		return 0, add(k, r.Intn(30))
	case 2:
		return 0, remove(k)
	case 3, 4:
		return k, vol(n)
	case 5:
		return k, unvol(n)
	case 6, 7, 8, 9, 10, 11:
		return k, upload(n, b, c)
	case 12, 13, 14, 15, 16:
		reply, e := h.sends(k, offer(n, b, c))
		if e != api.OK || reply.Status != api.Challenge {
			return k, vol(n)
		}
		sample := make([]byte, len(reply.Places))
		for i, p := range reply.Places {
			sample[i] = text(c)[p]
		}
		return k, api.Request{Kind: api.AskProve, Nonce: reply.Nonce, Sample: string(sample)}
	}
	return k, trim(n, b)
}

// At every moment at which no request is being done, and behind every crash and Open.
func TestA4RequestsAndCrashesByChance(t *testing.T) {
	done := map[int]int{}
	deaths := 0
	for seed := range int64(40) {
		r := rand.New(rand.NewSource(seed))
		h := formatted(t, []int{128, 128, 129, 200, 330, 1024}[r.Intn(6)])
		for range 150 {
			k, q := h.anything(r)
			if r.Intn(12) == 0 {
				isOK(t, "Arm", h.d.Arm(1+r.Intn(38)))
			}
			reply, e := h.sends(k, q)
			switch {
			case e == api.ErrDead:
				deaths++
				h.reopens(r)
			case r.Intn(30) == 0:
				h.open()
			case reply.Status == api.Done:
				done[q.Kind]++
			}
			isOK(t, "Arm", h.d.Arm(0))
			h.rests(fmt.Sprintf("seed %d, kind %d", seed, q.Kind))
		}
	}
	for _, kind := range []int{1, 2, 4, 5, 9, 10, 12} {
		if done[kind] < 20 {
			t.Errorf("kind %d was done %d times", kind, done[kind])
		}
	}
	if deaths < 50 {
		t.Errorf("%d deaths", deaths)
	}
}

// Behind a crash and Open the image is one that lay there ahead of the request, or behind it: so what is told of it is, too.
func TestA4TotalsBehindADeathAreOldOrNew(t *testing.T) {
	base := furnished(t)
	for act := 1; act <= 38; act++ {
		h := base.copied()
		isOK(t, "Arm", h.d.Arm(act))
		h.sends(1, upload(7, 59, 50))
		isOK(t, "Crash", h.d.Crash(nil))
		h.open()
		want := furniture()
		if act > 19 {
			want.Chunks, want.Pages, want.Mapped, want.Charged = 4, 8, 6, 14
		}
		if x := finds(t, "behind Open", h.d.Image()); x != want {
			t.Errorf("dead at %d: totals %+v, want %+v", act, x, want)
		}
	}
}
