package client

import (
	"strongbox/api"
	"strongbox/proof"
	"strongbox/seal"
	"strongbox/wire"
)

// errand is what a client waits for, with as much of it as the steps to come need.
type errand struct {
	kind           int // of the request that a reply is to come to; 0: it waits for nothing
	volume, block  int
	wrapped, chunk string
}

// Take takes the reply; what is next.
func (c *Client) Take(reply string) (api.Step, api.Errno) {
	if !c.isWaiting() {
		return api.Step{}, api.ErrClientIdle
	}
	kind := c.waits.kind
	r, errno := wire.DecodeReply(kind, reply)
	if errno != api.OK || !canBe(kind, r.Status) {
		return api.Step{}, api.ErrClientReply
	}
	switch {
	case kind == api.AskOffer && r.Status == api.Challenge:
		return c.prove(r), api.OK
	case kind == api.AskProve && (r.Status == api.Need || r.Status == api.Unmapped):
		return c.upload(r.Status), api.OK
	case kind == api.AskRead && r.Status == api.Done:
		return c.open(r)
	}
	c.Cancel()
	return api.Step{Over: true, Status: r.Status}, api.OK
}

// canBe tells whether a request of a kind can have gone so.
func canBe(kind int, status api.Status) bool {
	switch status {
	case api.Done:
		return kind != api.AskOffer
	case api.Challenge:
		return kind == api.AskOffer
	case api.Need:
		return kind == api.AskProve
	}
	return true
}

// prove goes on behind a challenge: what is asked for is shown.
func (c *Client) prove(r api.Reply) api.Step {
	// A reply's places all lie within a chunk.
	sample, _ := proof.SampleOf(c.waits.chunk, r.Places)
	c.waits.kind = api.AskProve
	return api.Step{Status: r.Status, Frame: frameOf(api.Request{Kind: api.AskProve, Nonce: r.Nonce, Sample: sample})}
}

// upload goes on behind a proof that was of no use: the chunk itself is sent.
func (c *Client) upload(status api.Status) api.Step {
	w := c.waits
	// Nothing else is needed any more, whatever comes.
	c.waits = errand{kind: api.AskUpload}
	return api.Step{Status: status, Frame: frameOf(api.Request{Kind: api.AskUpload, Volume: w.volume, Block: w.block, Wrapped: w.wrapped, Data: w.chunk})}
}

// open ends a Read with what came, if that is what was written there.
func (c *Client) open(r api.Reply) (api.Step, api.Errno) {
	w := c.waits
	c.Cancel()
	key, errno := seal.Unwrap(c.master, w.volume, w.block, r.Wrapped)
	if errno != api.OK {
		return api.Step{}, api.ErrClientLost
	}
	plain, errno := seal.Open(c.domain, key, r.Data)
	if errno != api.OK {
		return api.Step{}, api.ErrClientLost
	}
	return api.Step{Over: true, Status: r.Status, Plain: plain}, api.OK
}
