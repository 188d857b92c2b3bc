package server_test

import (
	"maps"
	"math/rand"
	"slices"
	"testing"

	"strongbox/api"
	"strongbox/wire"
)

// on is a box on an image that others have changed: its model is not held against it.
func on(t *testing.T, image []string) *box {
	t.Helper()
	b := &box{T: t, d: loaded(t, image), m: newModel(len(image))}
	b.open()
	return b
}

// replies asks a request of the server alone.
func (b *box) replies(k int, r api.Request) api.Reply {
	b.Helper()
	acts := len(b.d.Trace())
	s, e := b.s.Handle(k, frameOf(b.T, r), drawOf(1))
	answers(b.T, told(k, r), e, api.OK)
	reply, e := wire.DecodeReply(r.Kind, s)
	answers(b.T, "DecodeReply", e, api.OK)
	isShaped(b.T, told(k, r), b.d.Trace()[acts:], changes(r.Kind, reply.Status))
	return reply
}

func (b *box) goes(k int, r api.Request, want api.Status) {
	b.Helper()
	if got := b.replies(k, r).Status; got != want {
		b.Fatalf("%s: status %d, want %d", told(k, r), got, want)
	}
}

// chunkAt is the sector of a chunk.
func (b *box) chunkAt(c int) int { return b.m.ground.data + b.m.ground.chunks[text(c)] }

// Nobody has ever found two chunks of one digest: so one is made, by other bytes in the sector of one that is there.
func TestV5AnotherChunkWithTheSameDigest(t *testing.T) {
	base := furnished(t, 128)
	for at := range 256 {
		image := with(base.d.Image(), base.chunkAt(10), changed(text(10), at, byte(at)|1))
		b := on(t, image)
		was := b.totals()
		// To a block that is not mapped, to one that is, to one that is mapped to it.
		for _, i := range []int{2, 40, 1, 0} {
			b.goes(1, upload(5, i, 10, 90), api.Exists)
		}
		b.goes(2, upload(5, 0, 10, 90), api.Exists)
		if b.totals() != was || !slices.Equal(b.d.Image(), image) {
			t.Fatal("something is changed")
		}
		// What else is wrong is told ahead of it.
		b.goes(4, upload(98, 60, 10, 90), api.NoVolume)
		b.goes(4, upload(99, 60, 10, 90), api.OutOfRange)
		b.goes(4, upload(99, 0, 10, 90), api.OverQuota)
		b.goes(4, upload(99, 59, 10, 90), api.Exists)
	}
}

// The server goes on behind it as though that upload had not been.
func TestV5BehindAChunkWithTheSameDigest(t *testing.T) {
	base := furnished(t, 128)
	b := on(t, with(base.d.Image(), base.chunkAt(10), text(91)))
	b.goes(1, upload(7, 0, 10, 90), api.Exists)
	b.goes(1, upload(7, 0, 91, 90), api.Done)
	b.goes(1, upload(7, 1, 11, 90), api.Done)
	if r := b.replies(1, read(5, 0)); r.Data != text(91) || r.Wrapped != wrap(0) {
		t.Errorf("what is read is another one")
	}
	for _, x := range [][3]int{{1, 5, 0}, {1, 5, 3}, {2, 5, 0}} {
		b.goes(1, upload(7, 0, 10, 90), api.Exists)
		b.goes(x[0], trim(x[1], x[2]), api.Done)
	}
	// It is gone, so that it can come with its own bytes.
	b.goes(1, upload(7, 0, 10, 90), api.Done)
	if r := b.replies(1, read(7, 0)); r.Data != text(10) {
		t.Errorf("what is read is another one")
	}
}

func TestV5ASampleIsOfTheBytesOnTheDisk(t *testing.T) {
	base := furnished(t, 128)
	b := on(t, with(base.d.Image(), base.chunkAt(13), text(92)))
	r := b.replies(1, offer(7, 0, 13, 1))
	b.goes(1, prove(r.Nonce, sampleOf(text(13), r.Places)), api.Need)
	r = b.replies(1, offer(7, 0, 13, 1))
	b.goes(1, prove(r.Nonce, sampleOf(text(92), r.Places)), api.Done)
	if r := b.replies(1, read(7, 0)); r.Data != text(92) {
		t.Error("what is read is another one")
	}
}

// A transaction that is broken off in its midst, by a map that others have filled up but for one place: nothing of it is left, in memory neither.
func TestV6WhatIsNotCommittedIsTakenBack(t *testing.T) {
	base := furnished(t, 128)
	g := base.m.ground
	full := g.clone()
	free := slices.Index(g.taken, false)
	for i := range full.taken {
		full.taken[i] = i != free
	}
	image := with(base.d.Image(), 27, full.bitmapPages()[0])
	b := on(t, image)
	was := b.totals()
	for range 3 {
		// It has room for the chunk, but not for the leaf.
		b.goes(1, upload(7, 0, 93, 1), api.NoRoom)
		if b.totals() != was || !slices.Equal(b.d.Image(), image) {
			t.Fatal("something is changed")
		}
		r := b.replies(1, offer(5, 2, 93, 1))
		b.goes(1, prove(r.Nonce, sampleOf(text(93), r.Places)), api.Need)
	}
	// In a leaf that is there it has room, and is counted once.
	b.goes(1, upload(5, 2, 93, 1), api.Done)
	b.goes(1, upload(5, 4, 94, 1), api.NoRoom)
	b.goes(1, vol(50), api.NoRoom)
	b.goes(1, trim(5, 2), api.Done)
	r := b.replies(1, offer(5, 2, 93, 1))
	b.goes(1, prove(r.Nonce, sampleOf(text(93), r.Places)), api.Need)
	if b.totals() != was {
		t.Errorf("Totals = %+v, want %+v", b.totals(), was)
	}
}

// slip is an image in which others have changed something, by chance: pages that are right, but not those of a store, or no pages.
func slip(r *rand.Rand, b *box, image []string) []string {
	m := b.m.clone()
	g := m.ground
	place := r.Intn(g.count)
	switch r.Intn(8) {
	case 0:
		return with(image, g.data+r.Intn(20), text(r.Intn(100)))
	case 1:
		return with(image, g.data+r.Intn(20), image[g.data+r.Intn(20)])
	case 2:
		for range 1 + r.Intn(40) {
			g.taken[r.Intn(g.count)] = r.Intn(2) == 0
		}
		return with(image, 27, g.bitmapPages()[0])
	case 3:
		for slices.Contains(slices.Collect(maps.Values(g.chunks)), place) {
			place = r.Intn(g.count)
		}
		g.chunks[text(10+r.Intn(5))] = place
		return append(slices.Clone(image[:28]), append(g.indexPages(), image[43:]...)...)
	case 4:
		g.counts[text(10+r.Intn(5))] = []int{1, 2, 65534, 65535}[r.Intn(4)]
		return append(slices.Clone(image[:28]), append(g.indexPages(), image[43:]...)...)
	case 5:
		delete(g.chunks, text(10+r.Intn(5)))
		return append(slices.Clone(image[:28]), append(g.indexPages(), image[43:]...)...)
	case 6:
		// A tenant's charge, volumes that no frame can name, roots that are none.
		k := 1 + r.Intn(4)
		body := "\x01" + number(8, 4) + number(r.Intn(9), 4) + "\x02" + number(r.Intn(5), 1) + number(r.Intn(100), 4) + number(5, 1) + number(r.Intn(1024), 4)
		return with(image, 18+k, page(5, k, body+noughts(50-len(body))))
	}
	// A root with leaves that are none of its own.
	g.leaves[[3]int{1, 5, r.Intn(20)}] = []int{place, r.Intn(65535), 65534, r.Intn(20)}[r.Intn(4)]
	g.writeRoot(1, 5)
	return with(image, g.data+g.roots[[2]int{1, 5}], g.bytes[g.roots[[2]int{1, 5}]])
}

// Of a store that others have changed nothing is promised but that each call ends, does the acts of a request, and answers a reply.
func TestR1ServersOfStoresThatOthersHaveChanged(t *testing.T) {
	base := furnished(t, 128)
	for seed := range int64(80) {
		r := rand.New(rand.NewSource(seed))
		image := base.d.Image()
		for range 1 + r.Intn(4) {
			image = slip(r, base, image)
		}
		b := on(t, image)
		b.totals()
		for k := range 9 {
			for _, x := range everyKind() {
				b.replies(k, x)
			}
		}
		for range 60 {
			k := 1 + r.Intn(4)
			n, i, c := []int{5, 7, 99}[r.Intn(3)], r.Intn(8), 10+r.Intn(8)
			switch r.Intn(5) {
			case 0:
				x := b.replies(k, offer(n, i, c, i))
				if x.Status == api.Challenge {
					b.replies(k, prove(x.Nonce, sampleOf(text(c), x.Places)))
				}
			case 1:
				b.replies(k, upload(n, i, c, i))
			case 2:
				b.replies(k, read(n, i))
			case 3:
				b.replies(k, []api.Request{vol(n), unvol(n), vols(), stat()}[r.Intn(4)])
			default:
				b.replies(k, trim(n, i))
			}
		}
		b.totals()
	}
}
