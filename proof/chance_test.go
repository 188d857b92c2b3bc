package proof_test

import (
	"math/rand"
	"testing"

	"strongbox/api"
)

// anyOffer is an offer and a draw by chance, mostly right ones.
func anyOffer(r *rand.Rand) (api.Offer, string) {
	o, draw := offerOf(r.Intn(1000)), drawOf(r.Intn(1000))
	switch r.Intn(12) {
	case 0:
		draw = draw[:r.Intn(16)]
	case 1:
		draw += "x"
	case 2:
		o.Digest = o.Digest[:r.Intn(32)]
	case 3:
		o.Digest += "x"
		draw = draw[r.Intn(2):]
	case 4:
		o.Volume, o.Block, o.Wrapped = r.Int()-r.Int(), r.Int()-r.Int(), ""
	}
	return o, draw
}

// anyTenant is a tenant's number by chance, seldom a wrong one.
func anyTenant(r *rand.Rand) int {
	if r.Intn(15) == 0 {
		return noTenants()[r.Intn(len(noTenants()))]
	}
	return r.Intn(8) + 1
}

// anyNonce is a nonce by chance: often one of those that are pending.
func (p both) anyNonce(r *rand.Rand, tenant int) int {
	l := p.m.pending[tenant]
	if len(l) == 0 || r.Intn(3) == 0 {
		return p.m.made[tenant] + r.Intn(11) - 7
	}
	return l[r.Intn(len(l))].nonce
}

func TestO1ToO6ByChance(t *testing.T) {
	came := map[api.Errno]int{}
	full, pushed := 0, 0
	for seed := range 60 {
		r := rand.New(rand.NewSource(int64(1000 + seed)))
		p := newBoth(t)
		for range 400 {
			tenant := anyTenant(r)
			switch r.Intn(10) {
			case 0, 1, 2, 3, 4:
				o, draw := anyOffer(r)
				had := len(p.m.pending[tenant])
				_, errno := p.offer(tenant, o, draw)
				came[errno]++
				if had == 4 && errno == api.OK {
					pushed++
				}
			case 5, 6, 7:
				came[p.take(tenant, p.anyNonce(r, tenant))]++
			case 8:
				if r.Intn(4) == 0 {
					came[p.forget(tenant)]++
				}
			default:
				came[p.nonces(tenant)]++
			}
			if len(p.m.pending[tenant]) == 4 {
				full++
			}
			if r.Intn(20) == 0 {
				p.allNonces()
			}
		}
		p.allNonces()
	}
	for _, errno := range []api.Errno{api.OK, api.ErrArg, api.ErrProofNone, api.ErrProofDraw, api.ErrProofTenant} {
		if came[errno] < 50 {
			t.Errorf("the error %d came %d times", errno, came[errno])
		}
	}
	if full < 500 || pushed < 100 {
		t.Errorf("four were pending %d times, one was pushed out %d times", full, pushed)
	}
}

func TestO2ByChance(t *testing.T) {
	r := rand.New(rand.NewSource(5))
	came := map[api.Errno]int{}
	for range 3000 {
		cipher := chunkBy(r)
		switch r.Intn(10) {
		case 0:
			cipher = cipher[:r.Intn(256)]
		case 1:
			cipher += "x"
		}
		places := make([]int, r.Intn(12))
		for k := range places {
			places[k] = r.Intn(256)
			if r.Intn(40) == 0 {
				places[k] = r.Intn(600) - 150
			}
		}
		want, errno := wantSample(cipher, places)
		came[errno]++
		sampleIs(t, cipher, places, want, errno)
	}
	if came[api.OK] < 300 || came[api.ErrProofSample] < 300 {
		t.Errorf("they came %v times", came)
	}
}
