package server_test

import (
	"crypto/sha256"
	"maps"
	"slices"

	"strongbox/api"
	"strongbox/proof"
)

// block is what a block is mapped to.
type block struct{ data, wrapped string }

// owner is a tenant: its quota, and its volumes by their numbers, each with its mapped blocks by theirs.
type owner struct {
	quota   int
	volumes map[int]map[int]block
}

// pledge is a challenge that is pending.
type pledge struct {
	nonce  int
	offer  api.Offer
	places []int
}

// model is a store by DOC.md's section Requests, which knows of no sectors, counts or journals. What it does is told to a ground, which asks for nothing.
type model struct {
	capacity int
	owners   [9]*owner // by tenants; nil: not there
	pending  [9][]pledge
	nonces   [9]int // the last one of each
	ground   *ground
}

func newModel(sectors int) *model {
	g := newGround(sectors)
	return &model{capacity: g.count - 2, ground: g}
}

// clone is another one that is the same, and goes on by itself.
func (m *model) clone() *model {
	c := *m
	c.ground = m.ground.clone()
	for k, o := range m.owners {
		c.pending[k] = slices.Clone(m.pending[k])
		if o == nil {
			continue
		}
		c.owners[k] = &owner{quota: o.quota, volumes: map[int]map[int]block{}}
		for n, v := range o.volumes {
			c.owners[k].volumes[n] = maps.Clone(v)
		}
	}
	return &c
}

// reopened forgets what is in memory alone.
func (m *model) reopened() *model {
	c := m.clone()
	c.pending = [9][]pledge{}
	c.nonces = [9]int{}
	return c
}

var digests = map[string]string{}

// digestOf is a chunk's digest, by the library.
func digestOf(data string) string {
	if digests[data] == "" {
		sum := sha256.Sum256([]byte(data))
		digests[data] = string(sum[:])
	}
	return digests[data]
}

// charge is what a tenant is charged: mapped blocks, and pages.
func (o *owner) charge() int {
	sum := 0
	for _, v := range o.volumes {
		sum += len(v) + pagesOf(v)
	}
	return sum
}

// pagesOf is how many pages a volume has: its root, and a leaf for each three blocks of which one is mapped.
func pagesOf(v map[int]block) int {
	leaves := map[int]int{}
	for n := range v {
		leaves[n/3]++
	}
	return 1 + len(leaves)
}

// cost is what an upload to a block charges more.
func cost(v map[int]block, n int) int {
	with := maps.Clone(v)
	with[n] = block{}
	return len(with) + pagesOf(with) - len(v) - pagesOf(v)
}

func (o *owner) numbers() []int { return slices.Sorted(maps.Keys(o.volumes)) }

// mapped are all blocks of all volumes that are, of these tenants, one behind the other.
func (m *model) mapped(tenants ...int) []block {
	var l []block
	for _, k := range tenants {
		if m.owners[k] == nil {
			continue
		}
		for _, v := range m.owners[k].volumes {
			l = append(l, slices.Collect(maps.Values(v))...)
		}
	}
	return l
}

// chunk is the chunk of a digest, if one of these tenants has it.
func (m *model) chunk(digest string, tenants ...int) (string, bool) {
	for _, b := range m.mapped(tenants...) {
		if digestOf(b.data) == digest {
			return b.data, true
		}
	}
	return "", false
}

func all() []int { return []int{1, 2, 3, 4, 5, 6, 7, 8} }

func (m *model) promised() int {
	sum := 0
	for _, o := range m.owners {
		if o != nil {
			sum += o.quota
		}
	}
	return sum
}

// totals are counted anew.
func (m *model) totals() api.Totals {
	t := api.Totals{Promised: m.promised(), Capacity: m.capacity}
	different := map[string]int{}
	for _, b := range m.mapped(all()...) {
		different[b.data]++
		t.Mapped++
	}
	t.Chunks = len(different)
	for _, o := range m.owners {
		if o == nil {
			continue
		}
		t.Charged += o.charge()
		for _, v := range o.volumes {
			t.Pages += pagesOf(v)
		}
	}
	return t
}

// bare is a reply without fields.
func bare(s api.Status) api.Reply { return api.Reply{Status: s} }

// changes tells whether a request that is answered so changes the disk.
func changes(kind int, s api.Status) bool {
	reads := []int{api.AskTenant, api.AskVolumes, api.AskStat, api.AskOffer, api.AskRead}
	return s == api.Done && !slices.Contains(reads, kind)
}

// answer does a request; its reply.
func (m *model) answer(asker int, r api.Request, draw string) api.Reply {
	if (asker == 0) != (r.Kind <= 3) {
		return bare(api.NotAllowed)
	}
	if asker > 0 && m.owners[asker] == nil {
		return bare(api.NoTenant)
	}
	switch r.Kind {
	case api.AskAddTenant:
		return bare(m.addTenant(r.Tenant, r.Quota))
	case api.AskRemoveTenant:
		return bare(m.removeTenant(r.Tenant))
	case api.AskTenant:
		o := m.owners[r.Tenant]
		if o == nil {
			return bare(api.NoTenant)
		}
		return api.Reply{Quota: o.quota, Charge: o.charge(), Volumes: o.numbers()}
	case api.AskAddVolume:
		return bare(m.addVolume(asker, r.Volume))
	case api.AskRemoveVolume:
		return bare(m.removeVolume(asker, r.Volume))
	case api.AskVolumes:
		return api.Reply{Volumes: m.owners[asker].numbers()}
	case api.AskStat:
		return api.Reply{Quota: m.owners[asker].quota, Charge: m.owners[asker].charge()}
	case api.AskOffer:
		return m.offer(asker, r, draw)
	case api.AskProve:
		return bare(m.prove(asker, r))
	case api.AskUpload:
		return bare(m.upload(asker, r))
	case api.AskRead:
		return m.read(asker, r)
	}
	return bare(m.trim(asker, r))
}

func (m *model) addTenant(k, quota int) api.Status {
	switch {
	case m.owners[k] != nil:
		return api.Exists
	case m.promised()+quota > m.capacity:
		return api.NoRoom
	}
	m.owners[k] = &owner{quota: quota, volumes: map[int]map[int]block{}}
	return api.Done
}

func (m *model) removeTenant(k int) api.Status {
	switch {
	case m.owners[k] == nil:
		return api.NoTenant
	case len(m.owners[k].volumes) > 0:
		return api.NotEmpty
	}
	m.owners[k] = nil
	m.pending[k] = nil
	return api.Done
}

func (m *model) addVolume(k, n int) api.Status {
	o := m.owners[k]
	switch {
	case o.volumes[n] != nil:
		return api.Exists
	case len(o.volumes) == 8:
		return api.TooMany
	case o.charge()+1 > o.quota:
		return api.OverQuota
	}
	o.volumes[n] = map[int]block{}
	m.ground.addVolume(k, n)
	return api.Done
}

func (m *model) removeVolume(k, n int) api.Status {
	v := m.owners[k].volumes[n]
	switch {
	case v == nil:
		return api.NoVolume
	case len(v) > 0:
		return api.NotEmpty
	}
	delete(m.owners[k].volumes, n)
	m.ground.removeVolume(k, n)
	return api.Done
}

// place is what is wrong with a block that is to be mapped, but for the block's number.
func (m *model) place(k, n, b int) api.Status {
	o := m.owners[k]
	switch {
	case o.volumes[n] == nil:
		return api.NoVolume
	case b > 59:
		return api.OutOfRange
	case o.charge()+cost(o.volumes[n], b) > o.quota:
		return api.OverQuota
	}
	return api.Done
}

func (m *model) offer(k int, r api.Request, draw string) api.Reply {
	if s := m.place(k, r.Volume, r.Block); s != api.Done {
		return bare(s)
	}
	m.nonces[k]++
	places, _ := proof.PlacesOf(draw, r.Digest)
	m.pending[k] = append(m.pending[k], pledge{m.nonces[k], api.Offer{Volume: r.Volume, Block: r.Block, Digest: r.Digest, Wrapped: r.Wrapped}, places})
	if len(m.pending[k]) > 4 {
		m.pending[k] = m.pending[k][1:]
	}
	return api.Reply{Status: api.Challenge, Nonce: m.nonces[k], Places: places}
}

// pledged is a challenge that is pending.
func (m *model) pledged(k, nonce int) (pledge, bool) {
	for _, p := range m.pending[k] {
		if p.nonce == nonce {
			return p, true
		}
	}
	return pledge{}, false
}

func sampleOf(data string, places []int) string {
	var l []byte
	for _, i := range places {
		l = append(l, data[i])
	}
	return string(l)
}

func (m *model) prove(k int, r api.Request) api.Status {
	p, pending := m.pledged(k, r.Nonce)
	if !pending {
		return api.Unmapped
	}
	m.pending[k] = slices.DeleteFunc(slices.Clone(m.pending[k]), func(q pledge) bool { return q.nonce == p.nonce })
	if s := m.place(k, p.offer.Volume, p.offer.Block); s != api.Done {
		return s
	}
	data, there := m.chunk(p.offer.Digest, all()...)
	if !there || sampleOf(data, p.places) != r.Sample {
		return api.Need
	}
	m.set(k, p.offer.Volume, p.offer.Block, block{data, p.offer.Wrapped})
	return api.Done
}

func (m *model) upload(k int, r api.Request) api.Status {
	if s := m.place(k, r.Volume, r.Block); s != api.Done {
		return s
	}
	m.set(k, r.Volume, r.Block, block{r.Data, r.Wrapped})
	return api.Done
}

func (m *model) set(k, n, b int, to block) {
	v := m.owners[k].volumes[n]
	m.ground.set(k, n, b, v, to)
	v[b] = to
}

// find is what is wrong with a block that is to be read or trimmed.
func (m *model) find(k int, r api.Request) (block, api.Status) {
	v := m.owners[k].volumes[r.Volume]
	b, mapped := v[r.Block]
	switch {
	case v == nil:
		return block{}, api.NoVolume
	case r.Block > 59:
		return block{}, api.OutOfRange
	case !mapped:
		return block{}, api.Unmapped
	}
	return b, api.Done
}

func (m *model) read(k int, r api.Request) api.Reply {
	b, s := m.find(k, r)
	return api.Reply{Status: s, Wrapped: b.wrapped, Data: b.data}
}

func (m *model) trim(k int, r api.Request) api.Status {
	b, s := m.find(k, r)
	if s != api.Done {
		return s
	}
	delete(m.owners[k].volumes[r.Volume], r.Block)
	m.ground.clear(k, r.Volume, r.Block, m.owners[k].volumes[r.Volume], b)
	return api.Done
}
