package proof_test

import (
	"math"
	"slices"
	"strings"
	"testing"

	"strongbox/api"
	"strongbox/proof"
)

func TestO4O5TheExamples(t *testing.T) {
	p := newBoth(t)
	o, draw := offerOf(7), strings.Repeat("d", 16)
	offer := func(tenant, want int) {
		t.Helper()
		if n, _ := p.offer(tenant, o, draw); n != want {
			t.Fatalf("Offer(%d) = %d, want %d", tenant, n, want)
		}
	}
	take := func(tenant, nonce int, want api.Errno) {
		t.Helper()
		if errno := p.take(tenant, nonce); errno != want {
			t.Fatalf("Take(%d, %d) = %d, want %d", tenant, nonce, errno, want)
		}
	}
	offer(7, 1)
	offer(7, 2)
	offer(8, 1)
	take(8, 2, api.ErrProofNone)
	take(7, 1, api.OK)
	take(7, 1, api.ErrProofNone)
	offer(7, 3)
	offer(7, 4)
	offer(7, 5)
	pendingIs(t, p.b, 7, 2, 3, 4, 5)
	offer(7, 6)
	pendingIs(t, p.b, 7, 3, 4, 5, 6)
	if errno := p.forget(7); errno != api.OK {
		t.Errorf("Forget(7) = %d", errno)
	}
	pendingIs(t, p.b, 7)
	offer(7, 7)
	pendingIs(t, p.b, 7, 7)
	pendingIs(t, p.b, 8, 1)
}

func TestO3ANewBookHasNothingPending(t *testing.T) {
	b := proof.New()
	for tenant := 1; tenant <= 8; tenant++ {
		pendingIs(t, b, tenant)
		for _, nonce := range []int{0, 1, 2, 3, 4, 5, 4294967295} {
			if o, l, errno := b.Take(tenant, nonce); (o != api.Offer{}) || len(l) != 0 || errno != api.ErrProofNone {
				t.Errorf("Take(%d, %d) = %+v, %v, %d", tenant, nonce, o, l, errno)
			}
		}
		if errno := b.Forget(tenant); errno != api.OK {
			t.Errorf("Forget(%d) = %d", tenant, errno)
		}
		pendingIs(t, b, tenant)
	}
}

func TestO3TwoBooksKnowNothingOfOneAnother(t *testing.T) {
	one, other := newBoth(t), newBoth(t)
	for k := range 6 {
		one.offer(3, offerOf(k), drawOf(k))
	}
	pendingIs(t, other.b, 3)
	if errno := other.take(3, 5); errno != api.ErrProofNone {
		t.Errorf("Take of the other Book's = %d", errno)
	}
	other.offer(3, offerOf(50), drawOf(50))
	other.offer(3, offerOf(51), drawOf(51))
	pendingIs(t, other.b, 3, 1, 2)
	pendingIs(t, one.b, 3, 3, 4, 5, 6)
	one.forget(3)
	pendingIs(t, other.b, 3, 1, 2)
	one.offer(3, offerOf(1), drawOf(1))
	other.take(3, 1)
	pendingIs(t, one.b, 3, 7)
	pendingIs(t, proof.New(), 3)
	other.take(3, 2)
	one.take(3, 7)
}

func TestO4TheFirstErrorIsTold(t *testing.T) {
	long := strings.Repeat("x", 40)
	for _, tenant := range append(noTenants(), 1, 2, 7, 8) {
		for _, draw := range []int{0, 1, 15, 16, 17, 32} {
			for _, digest := range []int{0, 1, 31, 32, 33} {
				p := newBoth(t)
				_, errno := p.offer(tenant, api.Offer{Volume: 1, Block: 2, Digest: long[:digest], Wrapped: "w"}, long[:draw])
				want := api.OK
				switch {
				case tenant < 1 || tenant > 8:
					want = api.ErrProofTenant
				case draw != 16:
					want = api.ErrProofDraw
				case digest != 32:
					want = api.ErrArg
				}
				if errno != want {
					t.Errorf("Offer(%d) by a draw of %d bytes and a digest of %d = %d, want %d", tenant, draw, digest, errno, want)
				}
				p.allNonces()
			}
		}
	}
}

// What stands in an offer beside its digest is not looked at, and is told again.
func TestO4TheOfferIsTakenAsItIs(t *testing.T) {
	numbers := []int{math.MinInt, -1, 0, 1, 59, 60, 99, 100, math.MaxInt}
	texts := []string{"", "w", strings.Repeat("w", 48), strings.Repeat("\x00", 49), strings.Repeat("\xff", 3000), "\xc3\x28"}
	p := newBoth(t)
	for _, volume := range numbers {
		for _, block := range numbers {
			for k, wrapped := range texts {
				o := api.Offer{Volume: volume, Block: block, Digest: digestOf(k), Wrapped: wrapped}
				nonce, errno := p.offer(4, o, drawOf(k))
				if errno != api.OK {
					t.Fatalf("Offer of %+v = %d", o, errno)
				}
				if got, _, errno := p.b.Take(4, nonce); got != o || errno != api.OK {
					t.Errorf("Take = %+v, %d, want %+v", got, errno, o)
				}
				p.m.take(4, nonce)
			}
		}
	}
}

// Offer and Take tell what PlacesOf does, whichever of the pending ones is taken.
func TestO4O5ThePlacesAreThoseOfTheDrawAndTheDigest(t *testing.T) {
	for taken := 1; taken <= 4; taken++ {
		for k := 0; k < 200; k += 4 {
			b := proof.New()
			for nonce := 1; nonce <= 4; nonce++ {
				_, places, errno := b.Offer(5, offerOf(k+nonce), drawOf(k*7+nonce))
				want, _ := proof.PlacesOf(drawOf(k*7+nonce), digestOf(k+nonce))
				if len(want) != 8 || !slices.Equal(places, want) || errno != api.OK {
					t.Fatalf("Offer = %v, %d, want %v", places, errno, want)
				}
			}
			o, places, errno := b.Take(5, taken)
			want, _ := proof.PlacesOf(drawOf(k*7+taken), digestOf(k+taken))
			if o != offerOf(k+taken) || !slices.Equal(places, want) || errno != api.OK {
				t.Fatalf("Take = %+v, %v, %d, want %v", o, places, errno, want)
			}
		}
	}
}

// The same offer and draw may be pending more than once: each is a challenge of its own.
func TestO4TheSameOfferAgain(t *testing.T) {
	p := newBoth(t)
	for range 3 {
		p.offer(2, offerOf(9), drawOf(9))
	}
	pendingIs(t, p.b, 2, 1, 2, 3)
	p.take(2, 2)
	pendingIs(t, p.b, 2, 1, 3)
	p.take(2, 1)
	p.take(2, 3)
	pendingIs(t, p.b, 2)
}

func TestO4NoncesFollowOneAnother(t *testing.T) {
	b := proof.New()
	for want := 1; want <= 3000; want++ {
		nonce, _, errno := b.Offer(6, offerOf(want), drawOf(want))
		if nonce != want || errno != api.OK {
			t.Fatalf("Offer = %d, %d, want %d", nonce, errno, want)
		}
		if want%5 == 0 {
			b.Take(6, want)
		}
		if want%17 == 0 {
			b.Take(6, want-1)
		}
		if want%23 == 0 {
			b.Forget(6)
		}
		if want%7 == 0 {
			b.Offer(6, offerOf(want), "no draw")
			b.Offer(6, api.Offer{}, drawOf(want))
			b.Offer(6+8, offerOf(want), drawOf(want))
			b.Offer(7, offerOf(want), drawOf(want))
			b.Take(6, want+1)
		}
	}
	pendingIs(t, b, 6, 2997, 2998, 2999)
	pendingIs(t, b, 7, 425, 426, 427, 428)
}

func TestO4AFifthChallengePushesTheOldestOut(t *testing.T) {
	for made := 0; made <= 12; made++ {
		p := newBoth(t)
		var want []int
		for k := 1; k <= made; k++ {
			p.offer(1, offerOf(k), drawOf(k))
			if k > made-4 {
				want = append(want, k)
			}
		}
		pendingIs(t, p.b, 1, want...)
		for nonce := 0; nonce <= made+1; nonce++ {
			errno := p.take(1, nonce)
			if (errno == api.OK) != slices.Contains(want, nonce) {
				t.Errorf("of %d: Take(1, %d) = %d", made, nonce, errno)
			}
		}
		pendingIs(t, p.b, 1)
	}
}

// Behind a Take there is room for one more: a fifth then pushes nothing out.
func TestO4RoomBehindATake(t *testing.T) {
	for taken := 1; taken <= 4; taken++ {
		p := newBoth(t)
		for k := 1; k <= 4; k++ {
			p.offer(1, offerOf(k), drawOf(k))
		}
		p.take(1, taken)
		p.offer(1, offerOf(5), drawOf(5))
		want := slices.DeleteFunc([]int{1, 2, 3, 4, 5}, func(n int) bool { return n == taken })
		pendingIs(t, p.b, 1, want...)
		p.offer(1, offerOf(6), drawOf(6))
		pendingIs(t, p.b, 1, append(want[1:], 6)...)
	}
}

func TestO5OrderBehindATake(t *testing.T) {
	for pending := 1; pending <= 4; pending++ {
		for taken := 1; taken <= pending; taken++ {
			p := newBoth(t)
			var want []int
			for k := 1; k <= pending; k++ {
				p.offer(8, offerOf(k), drawOf(k))
				if k != taken {
					want = append(want, k)
				}
			}
			if errno := p.take(8, taken); errno != api.OK {
				t.Errorf("of %d: Take(8, %d) = %d", pending, taken, errno)
			}
			pendingIs(t, p.b, 8, want...)
			pendingIs(t, p.b, 8, want...)
			if errno := p.take(8, taken); errno != api.ErrProofNone {
				t.Errorf("of %d: Take(8, %d) again = %d", pending, taken, errno)
			}
			pendingIs(t, p.b, 8, want...)
			for _, nonce := range want {
				p.take(8, nonce)
			}
		}
	}
}

func TestO5TakeOfWhatIsNotPending(t *testing.T) {
	for made := 0; made <= 5; made++ {
		p := newBoth(t)
		for k := range made {
			p.offer(1, offerOf(k), drawOf(k))
		}
		for _, nonce := range []int{math.MinInt, -4294967295, -2, -1, 0, made + 1, made + 2, 256 + made, 65536 + made, 4294967295, 4294967296, 4294967296 + made, 4294967295 + made, math.MaxInt} {
			if errno := p.take(1, nonce); errno != api.ErrProofNone {
				t.Errorf("of %d: Take(1, %d) = %d", made, nonce, errno)
			}
			p.nonces(1)
		}
	}
}

// Taken, forgotten, pushed out, another tenant's.
func TestO5TakeOfWhatIsPendingNoMore(t *testing.T) {
	p := newBoth(t)
	for k := range 5 {
		p.offer(1, offerOf(k), drawOf(k))
	}
	p.offer(2, offerOf(20), drawOf(20))
	p.offer(3, offerOf(30), drawOf(30))
	p.take(1, 3)
	p.forget(3)
	for _, c := range []struct {
		what          string
		tenant, nonce int
	}{{"pushed out", 1, 1}, {"taken", 1, 3}, {"another tenant's", 2, 2}, {"another tenant's", 2, 5}, {"forgotten", 3, 1}, {"never made", 4, 1}} {
		if errno := p.take(c.tenant, c.nonce); errno != api.ErrProofNone {
			t.Errorf("Take of what was %s = %d", c.what, errno)
		}
	}
	pendingIs(t, p.b, 1, 2, 4, 5)
	pendingIs(t, p.b, 2, 1)
	pendingIs(t, p.b, 3)
}

func TestO5Forget(t *testing.T) {
	for made := 0; made <= 6; made++ {
		p := newBoth(t)
		for k := range made {
			p.offer(4, offerOf(k), drawOf(k))
			p.offer(5, offerOf(k), drawOf(k))
		}
		p.forget(4)
		pendingIs(t, p.b, 4)
		p.nonces(5)
		for nonce := 0; nonce <= made; nonce++ {
			if errno := p.take(4, nonce); errno != api.ErrProofNone {
				t.Errorf("of %d: Take(4, %d) = %d", made, nonce, errno)
			}
		}
		p.forget(4)
		pendingIs(t, p.b, 4)
		for k := range 5 {
			if nonce, _ := p.offer(4, offerOf(k), drawOf(k)); nonce != made+k+1 {
				t.Errorf("the nonce behind Forget is %d, want %d", nonce, made+k+1)
			}
		}
		pendingIs(t, p.b, 4, made+2, made+3, made+4, made+5)
	}
}

func TestO5NoSuchTenant(t *testing.T) {
	p := newBoth(t)
	for tenant := 1; tenant <= 8; tenant++ {
		for k := range tenant {
			p.offer(tenant, offerOf(k), drawOf(k))
		}
	}
	for _, tenant := range noTenants() {
		for _, nonce := range []int{math.MinInt, -1, 0, 1, 2, 4294967295, math.MaxInt} {
			if errno := p.take(tenant, nonce); errno != api.ErrProofTenant {
				t.Errorf("Take(%d, %d) = %d", tenant, nonce, errno)
			}
		}
		if errno := p.forget(tenant); errno != api.ErrProofTenant {
			t.Errorf("Forget(%d) = %d", tenant, errno)
		}
		if errno := p.nonces(tenant); errno != api.ErrProofTenant {
			t.Errorf("Pending(%d) = %d", tenant, errno)
		}
	}
	p.allNonces()
}

// Whatever is refused: nonces, and what is pending, are what they were, also where the channel is full.
func TestR1WhatIsRefusedChangesNothing(t *testing.T) {
	for made := 0; made <= 6; made++ {
		p := newBoth(t)
		for k := range made {
			p.offer(1, offerOf(k), drawOf(k))
		}
		short := offerOf(3)
		short.Digest = short.Digest[1:]
		for _, tenant := range append(noTenants(), 1) {
			p.offer(tenant, offerOf(1), drawOf(1)[1:])
			p.offer(tenant, offerOf(1), drawOf(1)+"x")
			p.offer(tenant, offerOf(1), "")
			p.offer(tenant, short, drawOf(1))
			p.offer(tenant, api.Offer{}, drawOf(1))
			p.take(tenant, 0)
			p.take(tenant, made+1)
			if tenant != 1 {
				p.offer(tenant, offerOf(1), drawOf(1))
				p.forget(tenant)
				p.nonces(tenant)
			}
		}
		p.allNonces()
		if nonce, _ := p.offer(1, offerOf(1), drawOf(1)); nonce != made+1 {
			t.Errorf("the nonce behind %d is %d", made, nonce)
		}
		for nonce := range made + 2 {
			p.take(1, nonce)
		}
	}
}

// Asking changes nothing, however often.
func TestO5PendingChangesNothing(t *testing.T) {
	p := newBoth(t)
	for k := range 7 {
		for range 9 {
			p.allNonces()
		}
		p.offer(3, offerOf(k), drawOf(k))
	}
	for range 9 {
		pendingIs(t, p.b, 3, 4, 5, 6, 7)
	}
	for nonce := 4; nonce <= 7; nonce++ {
		if errno := p.take(3, nonce); errno != api.OK {
			t.Errorf("Take(3, %d) = %d", nonce, errno)
		}
	}
}
