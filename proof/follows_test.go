package proof_test

import (
	"math/rand"
	"slices"
	"testing"

	"strongbox/api"
	"strongbox/proof"
)

// told is what a call for a tenant answered.
type told struct {
	nonce  int
	offer  api.Offer
	places string
	errno  api.Errno
}

// asText is a list as a text, so that answers can be compared as values.
func asText(l []int) string {
	s := ""
	for _, n := range l {
		s += string(rune(n))
	}
	return s
}

// step does one call for a tenant, chosen by two numbers.
func step(b *proof.Book, tenant, kind, k int) told {
	switch kind {
	case 0, 1, 2:
		n, l, e := b.Offer(tenant, offerOf(k), drawOf(k))
		return told{nonce: n, places: asText(l), errno: e}
	case 3, 4:
		o, l, e := b.Take(tenant, k)
		return told{offer: o, places: asText(l), errno: e}
	case 5:
		return told{errno: b.Forget(tenant)}
	case 6:
		n, l, e := b.Offer(tenant, offerOf(k), "no draw")
		return told{nonce: n, places: asText(l), errno: e}
	}
	l, e := b.Pending(tenant)
	return told{places: asText(l), errno: e}
}

// Two runs with the same calls for one tenant, and others' in between only in the second one.
func TestO6OneTenantDoesNotHangOnOthers(t *testing.T) {
	for seed := range 40 {
		r := rand.New(rand.NewSource(int64(seed)))
		alone, among := proof.New(), proof.New()
		mine := seed%8 + 1
		for k := range 150 {
			for range r.Intn(5) {
				other := r.Intn(8) + 1
				if other == mine {
					other = r.Intn(3) * 9
				}
				step(among, other, r.Intn(8), r.Intn(60))
			}
			kind, n := r.Intn(8), r.Intn(6)+k/3
			first, second := step(alone, mine, kind, n), step(among, mine, kind, n)
			if first != second {
				t.Fatalf("seed %d, step %d, kind %d: %+v alone, %+v among others", seed, k, kind, first, second)
			}
		}
	}
}

func TestO6AChallengeIsTakenAtMostOnce(t *testing.T) {
	b := proof.New()
	for tenant := 1; tenant <= 8; tenant++ {
		for k := range 4 {
			b.Offer(tenant, offerOf(10*tenant+k), drawOf(k))
		}
	}
	r := rand.New(rand.NewSource(6))
	taken := map[[2]int]bool{}
	for range 2000 {
		tenant, nonce := r.Intn(8)+1, r.Intn(6)
		o, _, errno := b.Take(tenant, nonce)
		is := [2]int{tenant, nonce}
		if errno == api.OK && (taken[is] || o != offerOf(10*tenant+nonce-1)) {
			t.Fatalf("Take(%d, %d) = %+v", tenant, nonce, o)
		}
		taken[is] = taken[is] || errno == api.OK
	}
	for tenant := 1; tenant <= 8; tenant++ {
		for nonce := 1; nonce <= 4; nonce++ {
			if !taken[[2]int{tenant, nonce}] {
				t.Errorf("%d was never taken by %d", nonce, tenant)
			}
		}
	}
}

// Only one of all tenants can take it.
func TestO6OnlyByWhomItWasMadeFor(t *testing.T) {
	for owner := 1; owner <= 8; owner++ {
		p := newBoth(t)
		p.offer(owner, offerOf(owner), drawOf(owner))
		for _, tenant := range append(noTenants(), 1, 2, 3, 4, 5, 6, 7, 8) {
			if tenant != owner && p.take(tenant, 1) == api.OK {
				t.Errorf("what was made for %d is taken by %d", owner, tenant)
			}
		}
		pendingIs(t, p.b, owner, 1)
		if errno := p.take(owner, 1); errno != api.OK {
			t.Errorf("Take(%d, 1) = %d", owner, errno)
		}
	}
}

func TestO6ChunksThatDifferAtAPlaceHaveTwoSamples(t *testing.T) {
	r := rand.New(rand.NewSource(7))
	b := proof.New()
	for k := range 60 {
		cipher := chunkBy(r)
		nonce, places, _ := b.Offer(1, offerOf(k), drawOf(k))
		_, again, _ := b.Take(1, nonce)
		was, errno := proof.SampleOf(cipher, again)
		if len(was) != 8 || errno != api.OK {
			t.Fatalf("SampleOf = %q, %d", was, errno)
		}
		for at := range 256 {
			other := []byte(cipher)
			other[at] ^= byte(1 + r.Intn(255))
			s, _ := proof.SampleOf(string(other), places)
			if (s == was) == slices.Contains(places, at) {
				t.Errorf("by the places %v, chunks that differ at %d: %q and %q", places, at, was, s)
			}
		}
	}
}
