package server_test

import (
	"maps"
	"math/rand"
	"slices"
	"testing"

	"strongbox/api"
	"strongbox/server"
)

// caller asks by chance: few volumes, blocks and chunks, so that they meet.
type caller struct {
	*rand.Rand
	chunks int  // how many different ones there are
	next   int  // of wrapped keys
	isWide bool // it likes volumes more than blocks
}

func (c *caller) pick(l ...int) int { return l[c.Intn(len(l))] }

func (c *caller) volume() int { return c.pick(1, 1, 1, 2, 3, 4, 5, 6, 7, 98, 99) }

func (c *caller) block() int {
	if c.Intn(12) == 0 {
		return c.pick(60, 61, 128, 255)
	}
	return c.pick(0, 1, 2, 3, 4, 5, 57, 58, 59, c.Intn(60))
}

// admins is a request of the admin's.
func (c *caller) admins(m *model) api.Request {
	k := 1 + c.Intn(8)
	left := m.capacity - m.promised()
	switch c.Intn(8) {
	case 0, 1:
		return remove(k)
	case 2:
		return look(k)
	case 3:
		return add(k, c.pick(0, left, left+1, 65535, m.capacity))
	}
	return add(k, min(left, c.pick(0, 1, 2, 3, 5, 8, 13, 20, 30)))
}

// data is the chunk of a digest, if a caller has ever named it.
func data(digest string) (string, bool) {
	for s, d := range digests {
		if d == digest && len(s) == 256 {
			return s, true
		}
	}
	return "", false
}

// sample is one for a challenge: mostly the right one.
func (c *caller) sample(p pledge, wrong int) string {
	s, _ := data(p.offer.Digest)
	right := sampleOf(s, p.places)
	if c.Intn(8) < wrong {
		return changed(right, c.Intn(8), byte(1+c.Intn(255)))
	}
	return right
}

// proof is a Prove of a tenant's.
func (c *caller) proof(m *model, k, wrong int) api.Request {
	if l := m.pending[k]; len(l) > 0 && c.Intn(8) > 0 {
		p := l[c.Intn(len(l))]
		return prove(p.nonce, c.sample(p, wrong))
	}
	return prove(c.pick(0, 1, 2, 3, m.nonces[k], max(m.nonces[k]-4, 0), 4294967295), "12345678")
}

// tenants is a request of a tenant's.
func (c *caller) tenants(m *model, k, wrong int) api.Request {
	c.next++
	n, b, chunk := c.volume(), c.block(), c.Intn(c.chunks)
	if c.isWide && c.Intn(2) == 0 {
		return vol(1 + c.Intn(99))
	}
	switch c.Intn(20) {
	case 0, 1:
		return vol(n)
	case 2:
		return unvol(n)
	case 3:
		return c.pickRequest(vols(), stat())
	case 4, 5, 6:
		return offer(n, b, chunk, c.next)
	case 7, 8, 9:
		return c.proof(m, k, wrong)
	case 10, 11, 12, 13, 14, 15:
		return upload(n, b, chunk, c.next)
	case 16:
		return read(n, b)
	}
	return trim(n, b)
}

func (c *caller) pickRequest(l ...api.Request) api.Request { return l[c.Intn(len(l))] }

// any is who asks, and what.
func (c *caller) any(m *model) (int, api.Request) {
	switch c.Intn(20) {
	case 0, 1:
		return 0, c.admins(m)
	case 2:
		// Whoever may not ask it.
		k := 1 + c.Intn(8)
		if c.Intn(2) == 0 {
			return k, c.admins(m)
		}
		return 0, c.tenants(m, k, 2)
	}
	k := c.someone(m)
	return k, c.tenants(m, k, 2)
}

// someone is mostly a tenant who is there.
func (c *caller) someone(m *model) int {
	for range 4 {
		if k := 1 + c.Intn(8); m.owners[k] != nil {
			return k
		}
	}
	return 1 + c.Intn(8)
}

func newCaller(seed int64) *caller {
	c := &caller{Rand: rand.New(rand.NewSource(seed))}
	c.chunks, c.isWide = c.pick(1, 3, 10, 40, 200), c.Intn(5) == 0
	return c
}

// statuses are those that each kind can have, by DOC.md's section Requests.
func statuses() map[int][]api.Status {
	here := []api.Status{api.NotAllowed, api.NoTenant}
	l := map[int][]api.Status{
		api.AskAddTenant:    {api.NotAllowed, api.Done, api.Exists, api.NoRoom},
		api.AskRemoveTenant: {api.NotAllowed, api.Done, api.NoTenant, api.NotEmpty},
		api.AskTenant:       {api.NotAllowed, api.Done, api.NoTenant},
		api.AskAddVolume:    {api.Done, api.Exists, api.TooMany, api.OverQuota},
		api.AskRemoveVolume: {api.Done, api.NoVolume, api.NotEmpty},
		api.AskVolumes:      {api.Done},
		api.AskStat:         {api.Done},
		api.AskOffer:        {api.Challenge, api.NoVolume, api.OutOfRange, api.OverQuota},
		api.AskProve:        {api.Done, api.Unmapped, api.NoVolume, api.OverQuota, api.Need},
		api.AskUpload:       {api.Done, api.NoVolume, api.OutOfRange, api.OverQuota},
		api.AskRead:         {api.Done, api.NoVolume, api.OutOfRange, api.Unmapped},
		api.AskTrim:         {api.Done, api.NoVolume, api.OutOfRange, api.Unmapped},
	}
	for kind := api.AskAddVolume; kind <= api.AskTrim; kind++ {
		l[kind] = append(l[kind], here...)
	}
	return l
}

func TestV8RequestsByChanceAgainstAPlainModel(t *testing.T) {
	seen := map[int]map[api.Status]int{}
	for seed := range int64(70) {
		c := newCaller(seed)
		b := begun(t, c.pick(128, 128, 129, 140, 330))
		for n := range 300 {
			k, r := c.any(b.m)
			s := b.does(k, r).Status
			if seen[r.Kind] == nil {
				seen[r.Kind] = map[api.Status]int{}
			}
			seen[r.Kind][s]++
			if changes(r.Kind, s) || n%50 == 0 {
				b.stands()
			}
			if c.Intn(60) == 0 {
				b.open()
			}
		}
		if seed%10 == 0 {
			b.tells()
		}
	}
	for kind, l := range statuses() {
		for _, s := range l {
			if seen[kind][s] == 0 {
				t.Errorf("a request of kind %d was never answered %d", kind, s)
			}
		}
		if len(seen[kind]) != len(l) {
			t.Errorf("requests of kind %d were answered %v", kind, seen[kind])
		}
	}
}

// crashes lets the disk live again, and dies in Open as it comes; then the store is what was, or what would be.
func (b *box) crashes(c *caller, was, now *model) {
	b.Helper()
	for s := (*server.Server)(nil); s == nil; {
		answers(b.T, "Crash", b.d.Crash(some(c.Rand, b.d.Pending(), c.Intn(5))), api.OK)
		if c.Intn(3) == 0 {
			answers(b.T, "Arm", b.d.Arm(c.Intn(22)), api.OK)
		}
		s, _ = server.Open(b.d)
	}
	answers(b.T, "Arm", b.d.Arm(0), api.OK)
	b.m = was
	if b.isOnDisk(now) {
		b.m = now
	}
	b.open()
	b.stands()
}

func TestV8RequestsByChanceWithDeaths(t *testing.T) {
	deaths, done := 0, 0
	for seed := range int64(45) {
		c := newCaller(1000 + seed)
		b := begun(t, 128)
		for n := range 300 {
			k, r := c.any(b.m)
			if c.Intn(8) > 0 {
				b.does(k, r)
				continue
			}
			was, draw := b.m.clone(), drawOf(n)
			want := b.m.answer(k, r, draw)
			act := 1 + c.Intn(45)
			answers(t, "Arm", b.d.Arm(act), api.OK)
			s, e := b.s.Handle(k, frameOf(t, r), draw)
			if dead := changes(r.Kind, want.Status) && act <= 38; dead != (e == api.ErrDead) || dead != (s == "") {
				t.Fatalf("%s, dying at %d: %q, %d", told(k, r), act, s, e)
			}
			if e == api.OK {
				if s != replyOf(t, r.Kind, want) {
					t.Fatalf("%s: %q, want %+v", told(k, r), s, want)
				}
				answers(t, "Arm", b.d.Arm(0), api.OK)
				continue
			}
			b.isLost()
			now := b.m
			b.crashes(c, was, now)
			deaths++
			if b.isOnDisk(now) {
				done++
			}
		}
		if seed%10 == 0 {
			b.tells()
		}
	}
	if deaths < 100 || done < 40 || deaths-done < 40 {
		t.Errorf("%d deaths, of which %d were done", deaths, done)
	}
}

// frames by chance: mostly no requests.
func TestV8FramesByChance(t *testing.T) {
	for seed := range int64(20) {
		c := newCaller(2000 + seed)
		b := furnished(t, 128)
		for range 300 {
			k, r := c.any(b.m)
			f := []byte(frameOf(t, r))
			for range 1 + c.Intn(3) {
				f[c.Intn(len(f))] ^= byte(1 + c.Intn(255))
			}
			frame := string(f)
			if c.Intn(3) == 0 {
				frame = text(c.Intn(1000))[:c.Intn(257)]
			}
			if frame != frameOf(t, r) {
				b.handles(k, frame, drawOf(1), replyOf(t, 0, bare(api.BadFrame)), api.OK)
			}
		}
		b.stands()
	}
}

// part of a run: who asks, what, and what was answered.
type step struct {
	k     int
	r     api.Request
	draw  string
	reply string
}

// secretRun is a run in which others do what they like between the steps of a set and the admin.
type secretRun struct {
	*box
	*caller
	set []int
}

func newSecretRun(t *testing.T, seed int64, set []int) *secretRun {
	t.Helper()
	return &secretRun{begun(t, 128), newCaller(seed), set}
}

// others do what they like.
func (x *secretRun) others(most int) {
	x.T.Helper()
	for range x.Intn(most + 1) {
		k := 1 + x.Intn(8)
		if !slices.Contains(x.set, k) {
			x.does(k, x.tenants(x.m, k, 1))
		}
	}
}

// takes does a step.
func (x *secretRun) takes(s step) step {
	x.T.Helper()
	x.m.answer(s.k, s.r, s.draw)
	reply, e := x.s.Handle(s.k, frameOf(x.T, s.r), s.draw)
	answers(x.T, told(s.k, s.r), e, api.OK)
	s.reply = reply
	return s
}

// choose is the next step of the set or the admin: nobody of the set proves what only others have, and none of the others is removed or asked about.
func (x *secretRun) choose(n int) step {
	if n < 8 {
		return step{k: 0, r: add(n+1, 10), draw: drawOf(n)}
	}
	k := x.set[x.Intn(len(x.set))]
	r := x.tenants(x.m, k, 2)
	if x.Intn(10) == 0 {
		k, r = 0, x.admins(x.m)
		if r.Kind != api.AskAddTenant && !slices.Contains(x.set, r.Tenant) {
			r = add(r.Tenant, x.Intn(10))
		}
	}
	if r.Kind == api.AskProve {
		p, pending := x.m.pledged(k, r.Nonce)
		if _, ours := x.m.chunk(p.offer.Digest, x.set...); pending && !ours {
			s, _ := data(p.offer.Digest)
			r.Sample = changed(sampleOf(s, p.places), x.Intn(8), byte(1+x.Intn(255)))
		}
	}
	return step{k: k, r: r, draw: drawOf(n)}
}

func TestV8WhatASetIsAnsweredDoesNotHangOnOthers(t *testing.T) {
	kinds := map[int]map[string]int{}
	for seed := range int64(14) {
		set := some(rand.New(rand.NewSource(seed)), 8, 2)
		for i := range set {
			set[i]++
		}
		if len(set) == 0 {
			set = []int{1}
		}
		one := newSecretRun(t, 3000+seed, set)
		var steps []step
		for n := range 250 {
			one.others(6)
			s := one.takes(one.choose(n))
			steps = append(steps, s)
			if kinds[s.r.Kind] == nil {
				kinds[s.r.Kind] = map[string]int{}
			}
			kinds[s.r.Kind][s.reply[:1]]++
		}
		for _, most := range []int{0, 2, 12} {
			other := newSecretRun(t, 4000+seed, set)
			for n, s := range steps {
				other.others(most)
				if got := other.takes(s); got != s {
					t.Fatalf("step %d of %v: %s: %q, and %q in another run", n, set, told(s.k, s.r), s.reply, got.reply)
				}
			}
		}
	}
	for kind := 1; kind <= 12; kind++ {
		if kinds[kind]["\x00"] == 0 && kind != api.AskOffer {
			t.Errorf("a request of kind %d was never answered Done", kind)
		}
	}
}

// fill uses all of a tenant's quota, each block with a chunk of its own.
func (b *box) fill(k, quota, from int) int {
	b.Helper()
	charge := 0
	for n := 1; n <= 8 && charge < quota; n++ {
		b.asks(k, vol(n), api.Done)
		charge++
		for i := range 60 {
			more := 1
			if i%3 == 0 {
				more = 2
			}
			if charge+more > quota {
				b.asks(k, upload(n, i, from, i), api.OverQuota)
				break
			}
			b.isDone(k, upload(n, i, from, i))
			from++
			charge += more
		}
	}
	return from
}

// All of the capacity can be promised and used, whoever has how much of it; then each block can still be written anew.
func TestV8AllOfTheCapacityCanBeUsed(t *testing.T) {
	for sectors, ahead := range map[int][]int{
		128:  nil,
		129:  {40},
		135:  {1, 2, 3, 4, 5, 6, 7},
		329:  {31, 32, 33, 34, 35, 36, 37},
		1024: {300, 107, 81, 82, 83, 84, 0},
	} {
		b := begun(t, sectors)
		from := 10000
		for k := range len(ahead) + 1 {
			quota := b.m.capacity - b.m.promised()
			if k < len(ahead) {
				quota = ahead[k]
			}
			b.asks(0, add(k+1, quota), api.Done)
			from = b.fill(k+1, quota, from)
		}
		x := b.totals()
		if x.Charged != x.Capacity || x.Promised != x.Capacity || x.Chunks+x.Pages != x.Capacity {
			t.Fatalf("of %d sectors: %+v", sectors, x)
		}
		b.asks(0, add(8, 1), []api.Status{api.NoRoom, api.Exists}[len(ahead)/7])
		b.rewrites(from)
		if b.totals() != x {
			t.Errorf("of %d sectors: %+v, %+v", sectors, x, b.totals())
		}
	}
}

// rewrites writes each mapped block anew, with a chunk of its own.
func (b *box) rewrites(from int) {
	b.Helper()
	for k, o := range b.m.owners {
		if o == nil {
			continue
		}
		for _, n := range o.numbers() {
			for _, i := range slices.Sorted(maps.Keys(o.volumes[n])) {
				b.isDone(k, upload(n, i, from, i))
				from++
			}
			b.stands()
		}
	}
}

// isDone does a request, but does not look at the disk: of a great one that takes long.
func (b *box) isDone(k int, r api.Request) {
	b.Helper()
	if s := b.does(k, r).Status; s != api.Done {
		b.Fatalf("%s: status %d", told(k, r), s)
	}
}
