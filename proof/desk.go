package proof

import "strongbox/api"

// lastNonce is the greatest nonce; behind it they begin anew.
const lastNonce = 4294967295

// challenge is what is pending: it was made with this nonce for that offer, and asks for these places.
type challenge struct {
	nonce  int
	offer  api.Offer
	places placeArray
}

// desk is what a Book keeps of one tenant: nothing in it hangs on others, so that nobody sees by their nonces what those do.
type desk struct {
	pending chan challenge // the oldest is received first
	nonce   int            // of the last challenge; 0 if there was none
}

// nextNonce is the nonce of one more challenge.
func (d *desk) nextNonce() int {
	d.nonce = d.nonce%lastNonce + 1
	return d.nonce
}

// add makes a challenge pending; if there is no room for it, the oldest one gives way.
func (d *desk) add(c challenge) {
	if len(d.pending) == cap(d.pending) {
		<-d.pending
	}
	d.pending <- c
}

// sift receives each of the challenges, the oldest first, and sends those again that stay: so they keep their order.
func (d *desk) sift(stays func(challenge) bool) {
	for range len(d.pending) {
		c := <-d.pending
		if stays(c) {
			d.pending <- c
		}
	}
}

// take takes the challenge with a nonce out, if it is pending.
func (d *desk) take(nonce int) (taken challenge, isPending bool) {
	d.sift(func(c challenge) bool {
		if c.nonce != nonce {
			return true
		}
		taken, isPending = c, true
		return false
	})
	return taken, isPending
}

// nonces are those of the challenges, the oldest first.
func (d *desk) nonces() []int {
	var l []int
	d.sift(func(c challenge) bool {
		l = append(l, c.nonce)
		return true
	})
	return l
}
