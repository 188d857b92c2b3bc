package server_test

import (
	"testing"

	"strongbox/api"
	"strongbox/proof"
)

// offers makes a challenge; its nonce, and the right sample.
func (b *box) offers(k, n, i, c, w int) (int, string) {
	b.Helper()
	r := b.does(k, offer(n, i, c, w))
	if r.Status != api.Challenge || len(r.Places) != 8 {
		b.Fatalf("Offer: %+v", r)
	}
	return r.Nonce, sampleOf(text(c), r.Places)
}

// Whether there is such a chunk or not: a challenge.
func TestV5AnOfferTellsNothing(t *testing.T) {
	b := furnished(t, 128)
	for n, c := range []int{10, 11, 12, 13, 14, 500, 501} {
		r := b.does(1, offer(7, 0, c, 1))
		want, _ := proof.PlacesOf(drawOf(b.draws), digestOf(text(c)))
		if r.Status != api.Challenge || r.Nonce != n+1 || len(want) != 8 {
			t.Errorf("of %d: %+v", c, r)
		}
	}
	b.stands()
}

func TestV5AProveWithTheRightSample(t *testing.T) {
	b := furnished(t, 128)
	// Its own chunk, another one's, and that of both.
	for i, c := range []int{11, 13, 10} {
		nonce, sample := b.offers(1, 7, 10*i, c, 40+c)
		b.asks(1, prove(nonce, sample), api.Done)
		r := b.does(1, read(7, 10*i))
		if r.Data != text(c) || r.Wrapped != wrap(40+c) {
			t.Errorf("of %d: what is read is another one", c)
		}
	}
	b.tells()
}

// Each byte of the sample counts; a challenge that was answered wrongly is over.
func TestV5AProveWithAWrongSample(t *testing.T) {
	b := furnished(t, 128)
	for at := range 8 {
		for _, by := range []byte{1, 128, 255} {
			nonce, sample := b.offers(1, 7, 0, 13, 1)
			b.asks(1, prove(nonce, changed(sample, at, by)), api.Need)
			b.asks(1, prove(nonce, sample), api.Unmapped)
		}
	}
	b.asks(1, read(7, 0), api.Unmapped)
	// The bytes of the places, but in another order.
	nonce, sample := b.offers(1, 7, 0, 13, 1)
	b.asks(1, prove(nonce, sample[1:]+sample[:1]), api.Need)
	b.proves(1, 7, 0, 13, 1, api.Done)
}

func TestV5AProveOfAChunkThatIsNotThere(t *testing.T) {
	b := furnished(t, 128)
	b.proves(1, 7, 0, 500, 1, api.Need)
	b.proves(1, 5, 0, 500, 1, api.Need)
	// It comes between the Offer and the Prove, and goes.
	nonce, sample := b.offers(1, 7, 0, 500, 1)
	b.asks(2, upload(5, 20, 500, 2), api.Done)
	b.asks(1, prove(nonce, sample), api.Done)
	b.asks(1, trim(7, 0), api.Done)
	nonce, sample = b.offers(1, 7, 0, 500, 1)
	b.asks(2, trim(5, 20), api.Done)
	b.asks(1, prove(nonce, sample), api.Need)
	b.asks(1, prove(nonce, sample), api.Unmapped)
}

func TestV5AChallengeIsItsTenants(t *testing.T) {
	b := furnished(t, 128)
	nonce, sample := b.offers(1, 7, 0, 13, 1)
	for _, k := range []int{2, 3, 4, 8} {
		b.asks(k, prove(nonce, sample), api.Unmapped)
	}
	b.asks(5, prove(nonce, sample), api.NoTenant)
	b.asks(0, prove(nonce, sample), api.NotAllowed)
	// One of the same nonce of another tenant's is another one.
	other, wrong := b.offers(2, 5, 9, 11, 2)
	if other != nonce {
		t.Fatalf("the nonces are %d and %d", nonce, other)
	}
	b.asks(2, prove(other, changed(wrong, 0, 1)), api.Need)
	b.asks(1, prove(nonce, sample), api.Done)
	b.asks(1, prove(nonce, sample), api.Unmapped)
}

// Of more than four the oldest is forgotten.
func TestV5FourChallengesArePending(t *testing.T) {
	b := furnished(t, 128)
	var nonces []int
	var samples []string
	for i := range 6 {
		nonce, sample := b.offers(1, 7, i, 10+i%4, i)
		nonces, samples = append(nonces, nonce), append(samples, sample)
	}
	b.asks(1, prove(nonces[0], samples[0]), api.Unmapped)
	b.asks(1, prove(nonces[1], samples[1]), api.Unmapped)
	for _, i := range []int{3, 2, 5, 4} {
		b.asks(1, prove(nonces[i], samples[i]), api.Done)
	}
	b.asks(1, prove(nonces[2], samples[2]), api.Unmapped)
	b.tells()
}

// An Offer that is refused makes no challenge, and forgets none.
func TestV5AnOfferThatIsRefused(t *testing.T) {
	b := furnished(t, 128)
	nonce, sample := b.offers(4, 99, 59, 14, 1)
	for range 5 {
		b.asks(4, offer(98, 0, 14, 1), api.NoVolume)
		b.asks(4, offer(99, 60, 14, 1), api.OutOfRange)
		b.asks(4, offer(99, 0, 14, 1), api.OverQuota)
	}
	if n, _ := b.offers(4, 99, 59, 14, 1); n != nonce+1 {
		t.Errorf("the nonces are %d and %d", nonce, n)
	}
	b.asks(4, prove(nonce, sample), api.Done)
}

// What is wrong with the block is told as it is now, ahead of what is wrong with the sample; the challenge is over.
func TestV5AProveIsHeldAgainstTheVolumeAsItIsNow(t *testing.T) {
	b := furnished(t, 128)
	// The volume went, and came again.
	nonce, sample := b.offers(1, 7, 0, 13, 1)
	again, other := b.offers(1, 7, 1, 13, 2)
	b.asks(1, unvol(7), api.Done)
	b.asks(1, prove(nonce, changed(sample, 0, 1)), api.NoVolume)
	b.asks(1, prove(nonce, sample), api.Unmapped)
	b.asks(1, vol(7), api.Done)
	b.asks(1, prove(again, other), api.Done)
	// The quota was used up meanwhile.
	b.asks(0, add(5, 5), api.Done)
	b.asks(5, vol(1), api.Done)
	nonce, sample = b.offers(5, 1, 0, 13, 1)
	again, other = b.offers(5, 1, 30, 13, 2)
	b.asks(5, upload(1, 30, 600, 3), api.Done)
	b.asks(5, upload(1, 31, 601, 3), api.Done)
	b.asks(5, prove(nonce, "12345678"), api.OverQuota)
	b.asks(5, prove(nonce, sample), api.Unmapped)
	// That block was mapped meanwhile: nothing more is charged.
	b.asks(5, prove(again, other), api.Done)
	b.tells()
}

// A challenge whose block would be above the quota by just one page.
func TestV5AProveAboveTheQuotaByOne(t *testing.T) {
	b := begun(t, 128)
	b.asks(0, add(1, 4), api.Done)
	b.asks(1, vol(1), api.Done)
	nonce, sample := b.offers(1, 1, 0, 1, 1)
	again, other := b.offers(1, 1, 4, 1, 1)
	b.asks(1, upload(1, 3, 1, 1), api.Done)
	b.asks(1, prove(nonce, sample), api.OverQuota)
	b.asks(1, prove(again, other), api.Done)
	b.asks(1, stat(), api.Done)
}
