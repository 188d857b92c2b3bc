package world_test

import (
	"fmt"
	"maps"
	"slices"
	"strings"

	"strongbox/api"
)

// block is what a block is mapped to.
type block struct{ data, wrapped string }

// owner is a tenant: its quota, and its volumes by their numbers, each with its mapped blocks by theirs.
type owner struct {
	quota   int
	volumes map[int]map[int]block
}

// store is what lasts: the tenants, by their numbers (nil: not there).
type store [9]*owner

// pledge is a challenge that is pending.
type pledge struct {
	nonce  int
	offer  api.Request
	places []int
}

// doom is a death of the row.
type doom struct {
	act  int
	bits string
}

// model is a world by the document's words: it knows of no sectors, but of how many acts there are, and at which of them a change is done.
type model struct {
	sectors, capacity int
	store             store
	pending           [9][]pledge
	nonces            [9]int // the last one of each
	domains           [9]string
	frames            int
	acts              int // that are not told
	row               []doom
	fuse              int // how many acts from now on the one is at which the disk dies; 0: none
	died              int // how often in this line
}

// roomFor is how many data sectors a disk has: the most for which all that is laid out is not too much.
func roomFor(sectors int) int {
	n := sectors
	for 19+8+(n+255)/256+(n+5)/6+n > sectors {
		n--
	}
	return n
}

func (s store) clone() store {
	for k, o := range s {
		if o == nil {
			continue
		}
		s[k] = &owner{quota: o.quota, volumes: map[int]map[int]block{}}
		for n, v := range o.volumes {
			s[k].volumes[n] = maps.Clone(v)
		}
	}
	return s
}

func (s store) promised() int {
	sum := 0
	for _, o := range s {
		if o != nil {
			sum += o.quota
		}
	}
	return sum
}

// charge is what a tenant is charged: mapped blocks, and pages.
func (o *owner) charge() int {
	sum := 0
	for _, v := range o.volumes {
		sum += len(v) + pagesOf(v)
	}
	return sum
}

// pagesOf is how many pages a volume has: its root, and a leaf for each three blocks of which one is mapped.
func pagesOf(v map[int]block) int {
	leaves := map[int]int{}
	for n := range v {
		leaves[n/3]++
	}
	return 1 + len(leaves)
}

// cost is what an upload to a block charges more.
func cost(v map[int]block, at int) int {
	with := maps.Clone(v)
	with[at] = block{}
	return len(with) + pagesOf(with) - len(v) - pagesOf(v)
}

func (o *owner) numbers() []int { return slices.Sorted(maps.Keys(o.volumes)) }

// chunks are all that are mapped by anybody, by their digests.
func (s store) chunks() map[string]string {
	l := map[string]string{}
	for _, o := range s {
		if o == nil {
			continue
		}
		for _, v := range o.volumes {
			for _, b := range v {
				l[sumOf(b.data)] = b.data
			}
		}
	}
	return l
}

// totals is what is told of them.
func (m *model) totals() string {
	pages, mapped, charged := 0, 0, 0
	for _, o := range m.store {
		if o == nil {
			continue
		}
		charged += o.charge()
		for _, v := range o.volumes {
			pages += pagesOf(v)
			mapped += len(v)
		}
	}
	return fmt.Sprintf("chunks %d pages %d mapped %d charged %d promised %d capacity %d", len(m.store.chunks()), pages, mapped, charged, m.store.promised(), m.capacity)
}

// handle answers a request, and does what it changes, if the disk lives through that.
func (m *model) handle(asker int, r api.Request) api.Reply {
	m.frames++
	next := m.store.clone()
	reply := m.answer(asker, r, &next)
	tells := []int{api.AskTenant, api.AskVolumes, api.AskStat, api.AskOffer, api.AskRead}
	if reply.Status == api.Done && !slices.Contains(tells, r.Kind) {
		m.commit(&next)
	}
	return reply
}

func bare(s api.Status) api.Reply { return api.Reply{Status: s} }

// answer is the reply to a request, which is done to s.
func (m *model) answer(asker int, r api.Request, s *store) api.Reply {
	if (asker == 0) != (r.Kind <= 3) {
		return bare(api.NotAllowed)
	}
	if asker > 0 && s[asker] == nil {
		return bare(api.NoTenant)
	}
	o := s[asker]
	switch r.Kind {
	case api.AskAddTenant, api.AskRemoveTenant:
		return bare(m.admin(r, s))
	case api.AskTenant:
		o = s[r.Tenant]
		if o == nil {
			return bare(api.NoTenant)
		}
		return api.Reply{Quota: o.quota, Charge: o.charge(), Volumes: o.numbers()}
	case api.AskAddVolume, api.AskRemoveVolume:
		return bare(o.volume(r))
	case api.AskVolumes:
		return api.Reply{Volumes: o.numbers()}
	case api.AskStat:
		return api.Reply{Quota: o.quota, Charge: o.charge()}
	case api.AskOffer:
		return m.offer(asker, o, r)
	case api.AskProve:
		return bare(m.prove(asker, o, r))
	case api.AskUpload:
		return bare(o.set(r, block{r.Data, r.Wrapped}))
	}
	return o.reads(r)
}

// admin is what the admin's requests that change something do.
func (m *model) admin(r api.Request, s *store) api.Status {
	o := s[r.Tenant]
	adds := r.Kind == api.AskAddTenant
	switch {
	case adds && o != nil:
		return api.Exists
	case adds && s.promised()+r.Quota > m.capacity:
		return api.NoRoom
	case adds:
		s[r.Tenant] = &owner{quota: r.Quota, volumes: map[int]map[int]block{}}
	case o == nil:
		return api.NoTenant
	case len(o.volumes) > 0:
		return api.NotEmpty
	default:
		s[r.Tenant] = nil
		m.pending[r.Tenant] = nil
	}
	return api.Done
}

// volume adds or removes one.
func (o *owner) volume(r api.Request) api.Status {
	v, there := o.volumes[r.Volume]
	adds := r.Kind == api.AskAddVolume
	switch {
	case adds && there:
		return api.Exists
	case adds && len(o.volumes) == 8:
		return api.TooMany
	case adds && o.charge()+1 > o.quota:
		return api.OverQuota
	case adds:
		o.volumes[r.Volume] = map[int]block{}
	case !there:
		return api.NoVolume
	case len(v) > 0:
		return api.NotEmpty
	default:
		delete(o.volumes, r.Volume)
	}
	return api.Done
}

// wrong is what is wrong with a place that is to be mapped, or Done.
func (o *owner) wrong(r api.Request) api.Status {
	switch {
	case o.volumes[r.Volume] == nil:
		return api.NoVolume
	case r.Block > 59:
		return api.OutOfRange
	case o.charge()+cost(o.volumes[r.Volume], r.Block) > o.quota:
		return api.OverQuota
	}
	return api.Done
}

// set maps a place.
func (o *owner) set(r api.Request, to block) api.Status {
	if s := o.wrong(r); s != api.Done {
		return s
	}
	o.volumes[r.Volume][r.Block] = to
	return api.Done
}

func (m *model) offer(k int, o *owner, r api.Request) api.Reply {
	if s := o.wrong(r); s != api.Done {
		return bare(s)
	}
	m.nonces[k]++
	p := pledge{m.nonces[k], r, placesOf(drawOf(m.frames), r.Digest)}
	m.pending[k] = append(m.pending[k], p)
	if len(m.pending[k]) > 4 {
		m.pending[k] = m.pending[k][1:]
	}
	return api.Reply{Status: api.Challenge, Nonce: p.nonce, Places: p.places}
}

func (m *model) prove(k int, o *owner, r api.Request) api.Status {
	i := slices.IndexFunc(m.pending[k], func(p pledge) bool { return p.nonce == r.Nonce })
	if i < 0 {
		return api.Unmapped
	}
	p := m.pending[k][i]
	m.pending[k] = slices.Delete(slices.Clone(m.pending[k]), i, i+1)
	if s := o.wrong(p.offer); s != api.Done {
		return s
	}
	data, there := m.store.chunks()[p.offer.Digest]
	if !there || sampleOf(data, p.places) != r.Sample {
		return api.Need
	}
	return o.set(p.offer, block{data, p.offer.Wrapped})
}

// reads reads or trims.
func (o *owner) reads(r api.Request) api.Reply {
	v := o.volumes[r.Volume]
	b, mapped := v[r.Block]
	switch {
	case v == nil:
		return bare(api.NoVolume)
	case r.Block > 59:
		return bare(api.OutOfRange)
	case !mapped:
		return bare(api.Unmapped)
	case r.Kind == api.AskTrim:
		delete(v, r.Block)
		return bare(api.Done)
	}
	return api.Reply{Wrapped: b.wrapped, Data: b.data}
}

// acted does so many acts: 0, or the number of the one at which the disk dies.
func (m *model) acted(n int) int {
	at := m.fuse
	if at == 0 || at > n {
		m.acts += n
		m.fuse = max(0, at-n)
		return 0
	}
	m.acts += at - 1
	m.died++
	return at
}

// arm arms the disk with the first of the row.
func (m *model) arm() {
	m.fuse = 0
	if len(m.row) > 0 {
		m.fuse = m.row[0].act
	}
}

// crash takes the first death out of the row; does the first of the unflushed writes stay?
func (m *model) crash() bool {
	stays := m.row[0].bits[0] == '1'
	m.row = m.row[1:]
	m.arm()
	return stays
}

// commit does the 38 acts of a change, and whatever comes of deaths in it. The head is the 18th act, it lasts by the 19th, and goes by the 37th and 38th; so do the 18th and 19th act of an opening that finds it.
func (m *model) commit(next *store) {
	at := m.acted(38)
	if at == 0 {
		m.store = *next
		return
	}
	stays := m.crash()
	if at > 19 || at == 19 && stays {
		m.store = *next
	}
	for isSet := at == 19 && stays || at > 19 && at < 38 || at == 38 && !stays; isSet; {
		at = m.acted(19)
		isSet = at != 0 && !(m.crash() && at == 19)
	}
	m.reopen()
}

// reopen forgets what is in memory alone.
func (m *model) reopen() {
	m.pending = [9][]pledge{}
	m.nonces = [9]int{}
}

// list is numbers as they are told.
func list(l []int) string {
	if len(l) == 0 {
		return "-"
	}
	return strings.ReplaceAll(strings.Trim(fmt.Sprint(l), "[]"), " ", ",")
}
