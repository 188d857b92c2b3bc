package client_test

import (
	"math/rand"
	"slices"
	"testing"

	"strongbox/api"
	"strongbox/client"
	"strongbox/disk"
	"strongbox/server"
	"strongbox/wire"
)

// store is a server on a disk, which clients ask.
type store struct {
	*testing.T
	d     *disk.Disk
	s     *server.Server
	draws int
}

func isOK(t *testing.T, what string, e api.Errno) {
	t.Helper()
	if e != api.OK {
		t.Fatalf("%s = %d", what, e)
	}
}

// formatted is an empty store.
func formatted(t *testing.T) *store {
	t.Helper()
	d, e := disk.New(128)
	isOK(t, "New", e)
	isOK(t, "Format", server.Format(d))
	h := &store{T: t, d: d}
	h.open()
	return h
}

// open opens the store anew.
func (h *store) open() {
	h.Helper()
	s, e := server.Open(h.d)
	isOK(h.T, "Open", e)
	h.s = s
}

// copied is another store with what lasts of this one.
func (h *store) copied() *store {
	h.Helper()
	d, e := disk.Load(h.d.Image())
	isOK(h.T, "Load", e)
	c := &store{T: h.T, d: d}
	c.open()
	return c
}

// sends sends a frame; the reply.
func (h *store) sends(asker int, frame string) string {
	h.Helper()
	h.draws++
	r, e := h.s.Handle(asker, frame, sumOf(number(h.draws, 8))[:16])
	isOK(h.T, "Handle", e)
	return r
}

// asks sends a request; how it went.
func (h *store) asks(asker int, r api.Request) api.Status {
	h.Helper()
	frame, e := wire.EncodeRequest(r)
	isOK(h.T, "EncodeRequest", e)
	return api.Status(h.sends(asker, frame)[0])
}

// adds adds tenants, each with a quota of 20 and the volumes 5 and 6.
func (h *store) adds(tenants ...int) {
	h.Helper()
	for _, k := range tenants {
		a := h.asks(0, api.Request{Kind: api.AskAddTenant, Tenant: k, Quota: 20})
		b := h.asks(k, api.Request{Kind: api.AskAddVolume, Volume: 5})
		c := h.asks(k, api.Request{Kind: api.AskAddVolume, Volume: 6})
		if a != api.Done || b != api.Done || c != api.Done {
			h.Fatalf("tenant %d: %d, %d, %d", k, a, b, c)
		}
	}
}

// person is who asks as a tenant, by a client.
type person struct {
	asker int
	c     *client.Client
}

func personOf(t *testing.T, asker int, domain, master string) person {
	t.Helper()
	c, e := client.New(keyOf(domain), keyOf(master))
	isOK(t, "New", e)
	return person{asker, c}
}

// begins begins what a kind of requests (8: Write) does.
func (p person) begins(kind, volume, block int, plain string) (string, api.Errno) {
	switch kind {
	case api.AskRead:
		return p.c.Read(volume, block)
	case api.AskTrim:
		return p.c.Trim(volume, block)
	}
	return p.c.Write(volume, block, plain)
}

// through sends what a client says until it is over, or refused; how many frames it took.
func (h *store) through(p person, frame string, e api.Errno) (api.Step, int, api.Errno) {
	h.Helper()
	isOK(h.T, "what was begun", e)
	for n := 1; n <= 3; n++ {
		s, e := p.c.Take(h.sends(p.asker, frame))
		if s.Over || e != api.OK {
			return s, n, e
		}
		frame = s.Frame
	}
	h.Fatal("it is not over behind three frames")
	return api.Step{}, 0, 0
}

// writes writes a block, which takes so many frames (2: proved, 3: uploaded).
func (h *store) writes(p person, volume, block int, plain string, frames int) {
	h.Helper()
	f, e := p.c.Write(volume, block, plain)
	if s, n, e := h.through(p, f, e); s != (api.Step{Over: true}) || n != frames || e != api.OK {
		h.Fatalf("%d writes %d, %d: %s, %d frames, %d", p.asker, volume, block, told(s), n, e)
	}
}

// reads reads a block, which must be this one ("": Unmapped).
func (h *store) reads(p person, volume, block int, plain string) {
	h.Helper()
	want := api.Step{Over: true, Status: api.Done, Plain: plain}
	if plain == "" {
		want.Status = api.Unmapped
	}
	f, e := p.c.Read(volume, block)
	if s, n, e := h.through(p, f, e); s != want || n != 1 || e != api.OK {
		h.Fatalf("%d reads %d, %d: %s, %d frames, %d, want %s", p.asker, volume, block, told(s), n, e, told(want))
	}
}

// loses reads a block that was not written so.
func (h *store) loses(p person, volume, block int) {
	h.Helper()
	f, e := p.c.Read(volume, block)
	if s, _, e := h.through(p, f, e); s != (api.Step{}) || e != api.ErrClientLost {
		h.Errorf("%d reads %d, %d: %s, %d", p.asker, volume, block, told(s), e)
	}
	if s, e := p.c.Take(""); s != (api.Step{}) || e != api.ErrClientIdle {
		h.Errorf("behind that: %s, %d", told(s), e)
	}
}

func (h *store) trims(p person, volume, block int, want api.Status) {
	h.Helper()
	f, e := p.c.Trim(volume, block)
	if s, n, e := h.through(p, f, e); s != (api.Step{Over: true, Status: want}) || n != 1 || e != api.OK {
		h.Fatalf("%d trims %d, %d: %s, %d", p.asker, volume, block, told(s), e)
	}
}

func (h *store) has(chunks, mapped int) {
	h.Helper()
	if x, e := h.s.Totals(); x.Chunks != chunks || x.Mapped != mapped || e != api.OK {
		h.Fatalf("Totals = %+v, %d, want %d chunks, %d mapped", x, e, chunks, mapped)
	}
}

// Two tenants of one domain: the first one uploads, the second one proves, and each reads its own, whatever the other one does.
func Test15_6ProvedOrUploaded(t *testing.T) {
	h := formatted(t)
	h.adds(1, 2)
	a, b := personOf(t, 1, "d", "m"), personOf(t, 2, "d", "n")
	h.reads(a, 5, 0, "")
	h.writes(a, 5, 0, plainOf(1), 3)
	h.reads(a, 5, 0, plainOf(1))
	h.writes(b, 6, 9, plainOf(1), 2)
	h.reads(b, 6, 9, plainOf(1))
	h.has(1, 2)
	h.open()
	h.reads(a, 5, 0, plainOf(1))
	h.reads(b, 6, 9, plainOf(1))
	h.trims(a, 5, 0, api.Done)
	h.trims(a, 5, 0, api.Unmapped)
	h.reads(a, 5, 0, "")
	h.reads(b, 6, 9, plainOf(1))
	h.writes(b, 6, 9, plainOf(2), 3)
	h.writes(a, 5, 0, plainOf(1), 3)
	h.writes(a, 5, 0, plainOf(2), 2)
	h.reads(a, 5, 0, plainOf(2))
	h.reads(b, 6, 9, plainOf(2))
	h.has(1, 2)
	// Written as it is: it is proved, for it is there.
	h.writes(a, 5, 0, plainOf(2), 2)
	h.writes(a, 5, 59, plainOf(2), 2)
	h.open()
	h.reads(a, 5, 59, plainOf(2))
	h.reads(a, 5, 0, plainOf(2))
	h.has(1, 3)
}

// Of another domain the same block is another chunk: it cannot be proved, and each has its own.
func Test15_6DomainsHaveChunksOfTheirOwn(t *testing.T) {
	h := formatted(t)
	h.adds(1, 2)
	a, b := personOf(t, 1, "d", "m"), personOf(t, 2, "e", "m")
	h.writes(a, 5, 0, plainOf(1), 3)
	h.writes(b, 5, 0, plainOf(1), 3)
	h.has(2, 2)
	h.reads(a, 5, 0, plainOf(1))
	h.reads(b, 5, 0, plainOf(1))
}

// Whoever has not both keys reads nothing of it, whether it was uploaded or proved; nor does it change anything for who has.
func Test15_6AnotherDomainOrMasterIsLost(t *testing.T) {
	h := formatted(t)
	h.adds(1, 2)
	a, b := personOf(t, 1, "d", "m"), personOf(t, 2, "d", "n")
	h.writes(a, 5, 0, plainOf(1), 3)
	h.writes(b, 5, 0, plainOf(1), 2)
	h.writes(a, 5, 1, plainOf(1), 2)
	for range 2 {
		for _, at := range []int{0, 1} {
			for _, keys := range [][2]string{{"e", "m"}, {"d", "n"}, {"e", "n"}, {"m", "d"}} {
				h.loses(personOf(t, 1, keys[0], keys[1]), 5, at)
			}
			h.reads(personOf(t, 1, "d", "m"), 5, at, plainOf(1))
			h.reads(a, 5, at, plainOf(1))
		}
		h.loses(personOf(t, 2, "d", "m"), 5, 0)
		h.loses(personOf(t, 2, "e", "n"), 5, 0)
		h.reads(b, 5, 0, plainOf(1))
		h.open()
	}
}

// A wrapped key that is laid elsewhere by its owner, or with another chunk, opens nothing there.
func Test15_6AnotherPlaceIsLost(t *testing.T) {
	h := formatted(t)
	h.adds(1)
	a := personOf(t, 1, "d", "m")
	h.writes(a, 5, 0, plainOf(1), 3)
	chunk, key := sealed(keyOf("d"), plainOf(1))
	unlike, _ := sealed(keyOf("d"), plainOf(2))
	wrapped := wrap(keyOf("m"), 5, 0, key)
	for _, r := range []api.Request{
		{Volume: 5, Block: 1, Wrapped: wrapped, Data: chunk},
		{Volume: 6, Block: 0, Wrapped: wrapped, Data: chunk},
		{Volume: 5, Block: 2, Wrapped: wrap(keyOf("m"), 5, 2, key), Data: unlike},
		{Volume: 5, Block: 3, Wrapped: zeros(48), Data: zeros(256)},
	} {
		r.Kind = api.AskUpload
		if s := h.asks(1, r); s != api.Done {
			t.Fatalf("Upload: %d", s)
		}
		h.loses(a, r.Volume, r.Block)
	}
	h.reads(a, 5, 0, plainOf(1))
	// What was laid there rightly by hand is read, too.
	h.asks(1, api.Request{Kind: api.AskUpload, Volume: 5, Block: 1, Wrapped: wrap(keyOf("m"), 5, 1, key), Data: chunk})
	h.reads(a, 5, 1, plainOf(1))
	h.writes(a, 5, 2, plainOf(3), 3)
	h.reads(a, 5, 2, plainOf(3))
}

// A challenge that is forgotten, by an Open or behind four later ones, makes an upload of it, though the chunk is there.
func Test15_6ForgottenChallenges(t *testing.T) {
	for name, forget := range map[string]func(h *store){
		"an Open": func(h *store) { h.open() },
		"four later ones": func(h *store) {
			for n := range 4 {
				if s := h.asks(1, api.Request{Kind: api.AskOffer, Volume: 6, Block: n, Digest: keyOf("x"), Wrapped: zeros(48)}); s != api.Challenge {
					t.Fatalf("Offer: %d", s)
				}
			}
		},
	} {
		h := formatted(t)
		h.adds(1)
		a := personOf(t, 1, "d", "m")
		h.writes(a, 5, 0, plainOf(1), 3)
		f, _ := a.c.Write(5, 1, plainOf(1))
		s, e := a.c.Take(h.sends(1, f))
		isOK(t, "Take", e)
		forget(h)
		if s, e = a.c.Take(h.sends(1, s.Frame)); s.Over || s.Status != api.Unmapped || e != api.OK {
			t.Fatalf("behind %s: %s, %d", name, told(s), e)
		}
		if s, _, e := h.through(a, s.Frame, api.OK); s != (api.Step{Over: true}) || e != api.OK {
			t.Fatalf("behind %s: %s, %d", name, told(s), e)
		}
		h.reads(a, 5, 1, plainOf(1))
		h.has(1, 2)
	}
}

// What the server refuses is told as it is, and nothing is changed.
func Test15_6Refusals(t *testing.T) {
	h := formatted(t)
	h.adds(1)
	a, nobody := personOf(t, 1, "d", "m"), personOf(t, 8, "d", "m")
	for n := range 12 {
		h.writes(a, 5, n, plainOf(n%2), 3-min(n/2, 1))
	}
	h.writes(a, 6, 0, plainOf(1), 2) // the quota is used up
	for _, x := range []struct {
		p                   person
		kind, volume, block int
		want                api.Status
	}{
		{a, 8, 7, 0, api.NoVolume}, {a, 8, 5, 59, api.OverQuota}, {nobody, 8, 5, 0, api.NoTenant},
		{a, 11, 7, 0, api.NoVolume}, {a, 11, 5, 59, api.Unmapped}, {nobody, 11, 5, 0, api.NoTenant},
		{a, 12, 7, 0, api.NoVolume}, {a, 12, 5, 59, api.Unmapped}, {nobody, 12, 5, 0, api.NoTenant},
	} {
		f, e := x.p.begins(x.kind, x.volume, x.block, plainOf(9))
		if s, n, e := h.through(x.p, f, e); s != (api.Step{Over: true, Status: x.want}) || n != 1 || e != api.OK {
			t.Errorf("kind %d at %d, %d: %s, %d, %d, want %d", x.kind, x.volume, x.block, told(s), n, e, x.want)
		}
	}
	for n := range 12 {
		h.reads(a, 5, n, plainOf(n%2))
	}
	h.reads(a, 6, 0, plainOf(1))
}

// The quota is used up, or the volume goes, between the steps of a Write.
func Test15_6RefusalsInTheMidst(t *testing.T) {
	fill := func(h *store) {
		for n := range 15 {
			h.asks(1, api.Request{Kind: api.AskUpload, Volume: 6, Block: n, Wrapped: zeros(48), Data: plainOf(n)})
		}
	}
	drop := func(h *store) { h.asks(1, api.Request{Kind: api.AskRemoveVolume, Volume: 5}) }
	for want, spoil := range map[api.Status]func(h *store){api.OverQuota: fill, api.NoVolume: drop} {
		for steps := range 3 {
			h := formatted(t)
			h.adds(1)
			a := personOf(t, 1, "d", "m")
			frame, _ := a.c.Write(5, 0, plainOf(1))
			for range steps {
				s, e := a.c.Take(h.sends(1, frame))
				isOK(t, "Take", e)
				frame = s.Frame
			}
			spoil(h)
			if s, n, e := h.through(a, frame, api.OK); s != (api.Step{Over: true, Status: want}) || n != 1 || e != api.OK {
				t.Errorf("behind %d steps: %s, %d, %d, want %d", steps, told(s), n, e, want)
			}
		}
	}
}

// keeps are choices among up to 16 pending writes: none, all, the first, all but the first, one and some by chance.
func keeps(r *rand.Rand) [][]int {
	return [][]int{nil, upTo(16), {0}, upTo(16)[1:], {r.Intn(16)}, r.Perm(16)[:8]}
}

// The disk dies at each act of the last frame of a Write or a Trim: behind Open the block is what it was or what it is to be, all else is as it was, and the client goes on behind a Cancel.
func Test15_6Deaths(t *testing.T) {
	base := formatted(t)
	base.adds(1, 2)
	a, b := personOf(t, 1, "d", "m"), personOf(t, 2, "d", "n")
	base.writes(a, 5, 0, plainOf(1), 3)
	base.writes(b, 5, 0, plainOf(2), 3)
	r := rand.New(rand.NewSource(3))
	for name, plain := range map[string]string{"uploaded": plainOf(3), "proved": plainOf(2), "trimmed": ""} {
		came := map[string]int{}
		for act := 1; act <= 38; act++ {
			for _, kept := range keeps(r) {
				h := base.copied()
				came[h.dies(a, plain, act, kept)]++
				h.reads(b, 5, 0, plainOf(2))
				h.writes(a, 5, 0, plainOf(4), 3)
				h.reads(a, 5, 0, plainOf(4))
			}
		}
		if len(came) != 2 || came[plain] < 50 || came[plainOf(1)] < 50 {
			t.Errorf("%s: %d outcomes, the new one %d times", name, len(came), came[plain])
		}
	}
}

// dies writes a block ("": trims it), which was plainOf(1), on a disk that dies at an act of the last frame; what the block is behind that.
func (h *store) dies(p person, plain string, act int, kept []int) string {
	h.Helper()
	frame, e := p.c.Trim(5, 0)
	if plain != "" {
		p.c.Cancel()
		frame, e = p.c.Write(5, 0, plain)
	}
	isOK(h.T, "what was begun", e)
	isOK(h.T, "Arm", h.d.Arm(act))
	for {
		h.draws++
		r, e := h.s.Handle(p.asker, frame, sumOf(number(h.draws, 8))[:16])
		if e == api.ErrDead {
			break
		}
		s, e := p.c.Take(r)
		if s.Over || e != api.OK {
			h.Fatalf("it did not die: %s, %d", told(s), e)
		}
		frame = s.Frame
	}
	kept = slices.DeleteFunc(slices.Clone(kept), func(k int) bool { return k >= h.d.Pending() })
	isOK(h.T, "Crash", h.d.Crash(kept))
	h.open()
	p.c.Cancel()
	f, e := p.c.Read(5, 0)
	s, _, e := h.through(p, f, e)
	isOK(h.T, "Read", e)
	return s.Plain
}
