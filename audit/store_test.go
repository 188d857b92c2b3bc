package audit_test

import (
	"math/rand"
	"slices"
	"strings"
	"testing"

	"strongbox/api"
	"strongbox/disk"
	"strongbox/proof"
	"strongbox/server"
	"strongbox/wire"
)

// store is a server on a disk.
type store struct {
	*testing.T
	d     *disk.Disk
	s     *server.Server
	draws int
}

func isOK(t *testing.T, what string, e api.Errno) {
	t.Helper()
	if e != api.OK {
		t.Fatalf("%s = %d", what, e)
	}
}

// formatted is an empty store.
func formatted(t *testing.T, sectors int) *store {
	t.Helper()
	d, e := disk.New(sectors)
	isOK(t, "New", e)
	isOK(t, "Format", server.Format(d))
	h := &store{T: t, d: d}
	h.open()
	return h
}

// open opens the store anew.
func (h *store) open() {
	h.Helper()
	s, e := server.Open(h.d)
	isOK(h.T, "Open", e)
	h.s = s
}

// copied is another store with what lasts of this one.
func (h *store) copied() *store {
	h.Helper()
	d, e := disk.Load(h.d.Image())
	isOK(h.T, "Load", e)
	c := &store{T: h.T, d: d}
	c.open()
	return c
}

// draw is one of which none was ahead.
func (h *store) draw() string {
	h.draws++
	return digestOf(number(h.draws, 8))[:16]
}

// sends asks a request; the reply.
func (h *store) sends(asker int, r api.Request) (api.Reply, api.Errno) {
	h.Helper()
	frame, e := wire.EncodeRequest(r)
	isOK(h.T, "EncodeRequest", e)
	s, e := h.s.Handle(asker, frame, h.draw())
	if e != api.OK {
		return api.Reply{}, e
	}
	reply, e := wire.DecodeReply(r.Kind, s)
	isOK(h.T, "DecodeReply", e)
	return reply, api.OK
}

// asks asks a request that must go so.
func (h *store) asks(asker int, r api.Request, want api.Status) api.Reply {
	h.Helper()
	reply, e := h.sends(asker, r)
	if e != api.OK || reply.Status != want {
		h.Fatalf("%d asks kind %d: %d, %d, want %d", asker, r.Kind, reply.Status, e, want)
	}
	return reply
}

func add(k, quota int) api.Request {
	return api.Request{Kind: api.AskAddTenant, Tenant: k, Quota: quota}
}
func remove(k int) api.Request { return api.Request{Kind: api.AskRemoveTenant, Tenant: k} }
func vol(n int) api.Request    { return api.Request{Kind: api.AskAddVolume, Volume: n} }
func unvol(n int) api.Request  { return api.Request{Kind: api.AskRemoveVolume, Volume: n} }
func trim(n, b int) api.Request {
	return api.Request{Kind: api.AskTrim, Volume: n, Block: b}
}

// upload is one of the chunk c.
func upload(n, b, c int) api.Request {
	return api.Request{Kind: api.AskUpload, Volume: n, Block: b, Wrapped: strings.Repeat("w", 48), Data: text(c)}
}

// offer is one of the chunk c.
func offer(n, b, c int) api.Request {
	return api.Request{Kind: api.AskOffer, Volume: n, Block: b, Wrapped: strings.Repeat("p", 48), Digest: digestOf(text(c))}
}

// offers offers the chunk c; the Prove that proves it.
func (h *store) offers(asker, n, b, c int) api.Request {
	h.Helper()
	r := h.asks(asker, offer(n, b, c), api.Challenge)
	sample, e := proof.SampleOf(text(c), r.Places)
	isOK(h.T, "SampleOf", e)
	return api.Request{Kind: api.AskProve, Nonce: r.Nonce, Sample: sample}
}

// furnished is a store of 128 sectors. Its data begin at sector 43, and at these places stand:
//
//	0 the root of volume 7 of tenant 1, with the leaves 0 (place 2) and 1 (place 4)
//	1 chunk 10, mapped three times
//	2 the leaf of the blocks 0 and 1, both of chunk 10
//	3 chunk 11, mapped once
//	4 the leaf of the block 3, of chunk 11
//	5 the root of volume 7 of tenant 2, without leaves
//	6 the root of volume 9 of tenant 2, with the leaves 19 (place 7) and 0 (place 9)
//	7 the leaf of the block 59, of chunk 10
//	8 chunk 12, mapped once
//	9 the leaf of the block 0, of chunk 12
func furnished(t *testing.T) *store {
	t.Helper()
	h := formatted(t, 128)
	h.asks(0, add(1, 50), api.Done)
	h.asks(0, add(2, 33), api.Done)
	h.asks(1, vol(7), api.Done)
	h.asks(1, upload(7, 0, 10), api.Done)
	h.asks(1, upload(7, 1, 10), api.Done)
	h.asks(1, upload(7, 3, 11), api.Done)
	h.asks(2, vol(7), api.Done)
	h.asks(2, vol(9), api.Done)
	h.asks(2, upload(9, 59, 10), api.Done)
	h.asks(2, upload(9, 0, 12), api.Done)
	return h
}

// at is the sector of a place of a furnished store; its index begins at sector 28.
func at(place int) int { return 43 + place }

const indexAt = 28

// furniture are the totals of a furnished store.
func furniture() api.Totals {
	return api.Totals{Chunks: 3, Pages: 7, Mapped: 5, Charged: 12, Promised: 83, Capacity: 83}
}

// spoilt is what a furnished store's image is behind a change.
func spoilt(t *testing.T, do func(image []string)) []string {
	t.Helper()
	image := furnished(t).d.Image()
	do(image)
	return image
}

// rests looks at what lasts: nothing is found, and what is told is what the server tells.
func (h *store) rests(what string) {
	h.Helper()
	image := h.d.Image()
	x := finds(h.T, what, image)
	want, e := h.s.Totals()
	isOK(h.T, "Totals", e)
	if x != want {
		h.Fatalf("%s: totals %+v, the server's %+v", what, x, want)
	}
	taken := len(plainTaken(image))
	if x.Chunks+x.Pages != taken || taken > x.Charged || x.Charged > x.Promised || x.Promised > x.Capacity {
		h.Fatalf("%s: totals %+v, and %d places are taken", what, x, taken)
	}
}

// plainTaken are the places that a right bitmap knows as taken.
func plainTaken(image []string) map[int]bool {
	p := plainOf(image)
	p.readBitmap()
	return p.taken
}

// some are numbers below n, each with so many chances of four.
func some(r *rand.Rand, n, of4 int) []int {
	return slices.DeleteFunc(upTo(n), func(int) bool { return r.Intn(4) >= of4 })
}

func upTo(n int) []int {
	l := make([]int, n)
	for i := range l {
		l[i] = i
	}
	return l
}
