package replica_test

import (
	"math/rand"
	"slices"
	"strings"
	"testing"

	"strongbox/api"
	"strongbox/audit"
	"strongbox/disk"
	"strongbox/server"
	"strongbox/wire"
)

// play is a primary, some replicas, and all that was ever said between them: it may come again at any time.
type play struct {
	*rand.Rand
	t        *testing.T
	primary  triedPrimary
	replicas []triedReplica
	frames   []string
	words    []string
}

func begins(t *testing.T, seed int64, size, replicas int) *play {
	x := &play{Rand: rand.New(rand.NewSource(seed)), t: t}
	x.primary = tryPrimary(t, x.next(image(size)))
	for range replicas {
		x.replicas = append(x.replicas, tryReplica(t))
	}
	return x
}

// next is an image that follows: the same, one with some other sectors, an earlier one, one of noughts, or quite another.
func (x *play) next(now []string) []string {
	switch x.Intn(12) {
	case 0:
		return now
	case 1:
		if x.primary.model != nil {
			return x.primary.model.all[x.Intn(len(x.primary.model.all))]
		}
	case 2:
		return image(len(now))
	case 3:
		if x.Intn(4) == 0 {
			return crowded(len(now), x.Intn(100))
		}
	}
	now = slices.Clone(now)
	for range 1 + x.Intn(4) {
		now[x.Intn(len(now))] = full(x.Intn(4))
	}
	return now
}

func (x *play) newest() (int, []string) {
	all := x.primary.model.all
	return len(all), all[len(all)-1]
}

// hands lets a replica take a frame, and looks at what it has then; its word may be lost, or come at once or twice, and late in any case.
func (x *play) hands(r triedReplica, frame string) {
	x.t.Helper()
	before := r.model.number
	word, _ := r.take(frame)
	x.holds(r, before)
	if word == "" {
		return
	}
	x.words = append(x.words, word)
	for range x.Intn(3) {
		x.primary.confirm(word)
	}
}

// holds is the theorem's first sentence: by what the replica tells itself.
func (x *play) holds(r triedReplica, before int) {
	x.t.Helper()
	number, errno := r.is.Number()
	now, _ := r.is.Image()
	if errno == api.ErrReplicaNone && before == 0 {
		return
	}
	if number < max(1, before) || number > len(x.primary.model.all) || !slices.Equal(now, x.primary.model.all[number-1]) {
		x.t.Fatalf("it had the number %d, and has the number %d, %d, which is another image", before, number, errno)
	}
}

// ships sends the frames of now to a replica: each lost, taken once or twice, or late.
func (x *play) ships(r triedReplica) {
	frames := x.primary.is.Frames()
	x.frames = append(x.frames, frames...)
	if x.Intn(4) == 0 {
		x.Shuffle(len(frames), func(i, j int) { frames[i], frames[j] = frames[j], frames[i] })
	}
	for _, s := range frames {
		for range []int{0, 1, 1, 1, 1, 2}[x.Intn(6)] {
			x.hands(r, s)
		}
	}
}

// spoilt is a text with some bits turned; the check may be made right again.
func (x *play) spoilt(s string) string {
	for range 1 + x.Intn(3) {
		s = turned(s, x.Intn(min(len(s), 60)), x.Intn(8))
	}
	if x.Intn(2) == 0 {
		return again(s)
	}
	return s
}

func (x *play) step() {
	r := x.replicas[x.Intn(len(x.replicas))]
	switch x.Intn(10) {
	case 0, 1, 2:
		_, now := x.newest()
		x.primary.notes(x.next(now), api.OK)
	case 3, 4, 5:
		x.ships(r)
	case 6:
		if len(x.frames) > 0 {
			x.hands(r, x.frames[x.Intn(len(x.frames))])
		}
	case 7:
		if len(x.frames) > 0 {
			x.hands(r, x.spoilt(x.frames[x.Intn(len(x.frames))]))
		}
	case 8:
		if len(x.words) > 0 {
			x.primary.confirm(x.words[x.Intn(len(x.words))])
		}
	case 9:
		if len(x.words) > 0 {
			if word := x.spoilt(x.words[x.Intn(len(x.words))]); again(word) != word {
				x.primary.disbelieves(word, api.ErrReplicaFrame)
			}
		}
	}
}

// copied is another replica that has what one has.
func (x *play) copied(r triedReplica) triedReplica {
	if r.model.number == 0 {
		return tryReplica(x.t)
	}
	return having(x.t, r.model.number, r.model.image)
}

// leads is whether all frames of now, in their order, lead a replica to the newest image.
func (x *play) leads(r triedReplica) {
	x.t.Helper()
	from := r.model.number
	for _, s := range x.primary.is.Frames() {
		before := r.model.number
		r.take(s)
		x.holds(r, before)
	}
	number, now := x.newest()
	if r.model.number != number || !slices.Equal(r.model.image, now) {
		x.t.Fatalf("Frames lead from the number %d to %d, the newest is %d", from, r.model.number, number)
	}
}

// reaches is the theorem's second sentence: of each image that is kept, and of nothing, if there is no base.
func (x *play) reaches() {
	x.t.Helper()
	m := x.primary.model
	for _, number := range append([]int{m.base}, m.notes...) {
		if number == 0 {
			x.leads(tryReplica(x.t))
		} else {
			x.leads(having(x.t, number, m.all[number-1]))
		}
	}
}

func TestX7DrawnSteps(t *testing.T) {
	for seed := range int64(4) {
		x := begins(t, seed, 128, 2)
		for k := range 300 {
			x.step()
			if k%10 == 0 {
				x.reaches()
			}
		}
		if number, _ := x.newest(); number < 40 || len(x.words) < 40 {
			t.Errorf("of the seed %d little was played: %d images, %d words", seed, number, len(x.words))
		}
	}
}

func TestX7DrawnStepsOfGreatImages(t *testing.T) {
	x := begins(t, 77, 1024, 2)
	for k := range 60 {
		x.step()
		if k%20 == 0 {
			x.reaches()
		}
	}
}

// What Confirm forgets is never wanted again by the replica whose word it was: what is said behind it leads that one to the newest image.
func TestX7WhatIsForgottenIsNotWanted(t *testing.T) {
	believed := map[bool]int{}
	for seed := range int64(4) {
		x := begins(t, 100+seed, 128, 2)
		for range 200 {
			x.step()
			for _, r := range x.replicas {
				if x.Intn(8) > 0 {
					continue
				}
				_, errno := x.primary.confirm(r.model.word())
				if errno == api.OK {
					x.leads(x.copied(r))
				}
				believed[errno == api.OK]++
			}
		}
	}
	if believed[true] < 50 || believed[false] < 5 {
		t.Errorf("words that were believed, and that were not: %v", believed)
	}
}

// One replica alone, each word of which comes, is never left behind, however many frames are lost.
func TestX7OneReplicaIsNeverLeftBehind(t *testing.T) {
	x := begins(t, 7, 128, 1)
	r := x.replicas[0]
	for range 150 {
		_, now := x.newest()
		x.primary.notes(x.next(now), api.OK)
		for _, s := range x.primary.is.Frames() {
			if x.Intn(5) > 0 {
				continue
			}
			word, errno := r.take(s)
			if errno == api.ErrReplicaRoot || errno == api.ErrReplicaFrame {
				t.Fatalf("Take = %d", errno)
			}
			if _, errno := x.primary.confirm(word); errno != api.OK {
				t.Fatalf("Confirm = %d", errno)
			}
		}
		x.leads(x.copied(r))
	}
}

// Frames in every order, doubled: of each beginning the replica has what it may have.
func TestX7EveryOrder(t *testing.T) {
	p := tryPrimary(t, numbered(1), numbered(2), numbered(3), numbered(4))
	frames := p.is.Frames()
	var orders func(done []string, left []string)
	orders = func(done, left []string) {
		if len(left) == 0 {
			r := tryReplica(t)
			for _, s := range append(slices.Clone(done), done...) {
				before := r.model.number
				r.take(s)
				if r.model.number < before || r.model.number > 0 && !slices.Equal(r.model.image, numbered(r.model.number)) {
					t.Fatalf("from %d to %d", before, r.model.number)
				}
			}
		}
		for k := range left {
			orders(append(slices.Clone(done), left[k]), slices.Concat(left[:k], left[k+1:]))
		}
	}
	orders(nil, frames)
}

// store is a server on a disk, and draws for its frames.
type store struct {
	t     *testing.T
	disk  *disk.Disk
	is    *server.Server
	draws int
}

func opens(t *testing.T, d *disk.Disk) *store {
	t.Helper()
	s, errno := server.Open(d)
	if errno != api.OK {
		t.Fatalf("Open = %d", errno)
	}
	return &store{t: t, disk: d, is: s}
}

func (s *store) asks(asker int, r api.Request) api.Reply {
	s.t.Helper()
	frame, errno := wire.EncodeRequest(r)
	if errno != api.OK {
		s.t.Fatalf("EncodeRequest = %d", errno)
	}
	s.draws++
	got, errno := s.is.Handle(asker, frame, num(s.draws, 8)+num(s.draws, 8))
	if errno != api.OK {
		s.t.Fatalf("Handle = %d", errno)
	}
	reply, errno := wire.DecodeReply(r.Kind, got)
	if errno != api.OK {
		s.t.Fatalf("DecodeReply = %d", errno)
	}
	return reply
}

// tells is all that a store says of its tenants 1 and 2, and of the blocks of their volume 5.
func (s *store) tells() []api.Reply {
	var l []api.Reply
	for asker := 1; asker <= 2; asker++ {
		l = append(l, s.asks(0, api.Request{Kind: api.AskTenant, Tenant: asker}), s.asks(asker, api.Request{Kind: api.AskVolumes}))
		for block := range 12 {
			l = append(l, s.asks(asker, api.Request{Kind: api.AskRead, Volume: 5, Block: block}))
		}
	}
	return l
}

// changes does one thing that changes the disk, or is refused.
func (s *store) changes(r *rand.Rand) {
	asker, block := 1+r.Intn(2), r.Intn(12)
	switch r.Intn(8) {
	case 0:
		s.asks(0, api.Request{Kind: api.AskAddTenant, Tenant: asker, Quota: 40})
	case 1:
		s.asks(asker, api.Request{Kind: api.AskAddVolume, Volume: 5})
	case 2:
		s.asks(asker, api.Request{Kind: api.AskTrim, Volume: 5, Block: block})
	default:
		s.asks(asker, api.Request{Kind: api.AskUpload, Volume: 5, Block: block, Wrapped: strings.Repeat("w", 48), Data: text(r.Intn(9))})
	}
}

func sameReplies(a, b []api.Reply) bool {
	return slices.EqualFunc(a, b, func(x, y api.Reply) bool {
		return x.Status == y.Status && x.Quota == y.Quota && x.Charge == y.Charge && slices.Equal(x.Volumes, y.Volumes) && x.Wrapped == y.Wrapped && x.Data == y.Data
	})
}

// A replica that is promoted is a store in which an audit finds nothing, and which tells what the first one told when it noted that image.
func TestP11PromotedStores(t *testing.T) {
	r := rand.New(rand.NewSource(11))
	d, _ := disk.New(200)
	if errno := server.Format(d); errno != api.OK {
		t.Fatalf("Format = %d", errno)
	}
	s := opens(t, d)
	p, copy := tryPrimary(t, d.Image()), tryReplica(t)
	told, totals := [][]api.Reply{s.tells()}, []api.Totals{{}}
	totals[0], _ = s.is.Totals()
	for range 80 {
		for range r.Intn(4) {
			s.changes(r)
		}
		p.notes(d.Image(), api.OK)
		now, _ := s.is.Totals()
		told, totals = append(told, s.tells()), append(totals, now)
		for _, frame := range p.is.Frames() {
			if r.Intn(3) == 0 {
				continue
			}
			if word, _ := copy.take(frame); word != "" && r.Intn(2) == 0 {
				p.confirm(word)
			}
		}
		number, errno := copy.is.Number()
		if errno != api.OK {
			continue
		}
		other := promoted(t, copy)
		if found, _, errno := audit.Look(other.Image()); len(found) != 0 || errno != api.OK {
			t.Fatalf("the number %d: findings %v, %d", number, found, errno)
		}
		store := opens(t, other)
		if got, _ := store.is.Totals(); got != totals[number-1] || !sameReplies(store.tells(), told[number-1]) {
			t.Fatalf("the number %d tells other things than the primary's store", number)
		}
		store.changes(r) // of which neither the replica nor the first store knows
		copy.stands("a change of what is promoted")
	}
	if copy.model.number < 60 {
		t.Errorf("it has the number %d in the end", copy.model.number)
	}
}
