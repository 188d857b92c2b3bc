package client_test

import (
	"fmt"
	"math/rand"
	"testing"

	"strongbox/api"
)

// spot is a block of a tenant's volume.
type spot struct{ asker, volume, block int }

// thing is what a member of a crowd is about: its next frame is still to be sent.
type thing struct {
	kind        int // of the request that was begun; 0: none
	at          spot
	plain       string
	frame       string
	isForgotten bool // the store was opened behind the challenge
}

// member is one of a crowd.
type member struct {
	person
	domain string
	about  thing
}

// crowd is clients that ask one store in turns, frame by frame, and what each block must be by DOC.md's P6: it knows of what was told to be over alone.
type crowd struct {
	*store
	r       *rand.Rand
	members []*member
	blocks  map[spot]string // the plain blocks that are mapped
	chunks  map[spot]string // what they are, and what a stranger has, as chunks
	came    map[string]int
}

func crowdOf(t *testing.T, seed int64) *crowd {
	w := &crowd{store: formatted(t), r: rand.New(rand.NewSource(seed)), blocks: map[spot]string{}, chunks: map[spot]string{}, came: map[string]int{}}
	w.adds(1, 2, 3, 4)
	for k, keys := range [][2]string{{"d", "m"}, {"d", "n"}, {"e", "m"}} {
		w.members = append(w.members, &member{person: personOf(t, k+1, keys[0], keys[1]), domain: keys[0]})
	}
	return w
}

// anySpot is one of few, seldom of a volume that is not there.
func (w *crowd) anySpot(asker int) spot {
	return spot{asker, []int{5, 5, 5, 6, 6, 6, 6, 7}[w.r.Intn(8)], []int{0, 1, 2, 3, 29, 30, 57, 59}[w.r.Intn(8)]}
}

// begins lets a member begin something.
func (w *crowd) begins(p *member) {
	w.Helper()
	a := thing{kind: []int{8, 8, 8, 11, 11, 12}[w.r.Intn(6)], at: w.anySpot(p.asker), plain: plainOf(w.r.Intn(7))}
	f, e := p.person.begins(a.kind, a.at.volume, a.at.block, a.plain)
	isOK(w.T, "what was begun", e)
	a.frame = f
	p.about = a
}

// isThere tells whether somebody has a chunk.
func (w *crowd) isThere(chunk string) bool {
	for _, c := range w.chunks {
		if c == chunk {
			return true
		}
	}
	return false
}

// changed notes what the server has done: a reply Done to these kinds changes the block.
func (w *crowd) changed(p *member, kind int) {
	a := p.about
	switch kind {
	case api.AskProve, api.AskUpload:
		w.blocks[a.at] = a.plain
		w.chunks[a.at], _ = sealed(keyOf(p.domain), a.plain)
	case api.AskTrim:
		delete(w.blocks, a.at)
		delete(w.chunks, a.at)
	}
}

// wants looks at how a frame of a kind went, by what the crowd knows ahead of it.
func (w *crowd) wants(p *member, kind int, got api.Status) {
	w.Helper()
	chunk, _ := sealed(keyOf(p.domain), p.about.plain)
	_, isMapped := w.blocks[p.about.at]
	var want api.Status
	switch {
	case p.about.isForgotten && kind == api.AskProve:
		want = api.Unmapped
	case p.about.at.volume == 7:
		want = api.NoVolume
	case kind == api.AskOffer:
		want = api.Challenge
	case kind == api.AskProve && !w.isThere(chunk):
		want = api.Need
	case kind >= api.AskRead && !isMapped:
		want = api.Unmapped
	}
	isOver := got == api.OverQuota && kind <= api.AskUpload && !isMapped
	if got != want && !isOver {
		w.Fatalf("kind %d at %+v: status %d, want %d", kind, p.about.at, got, want)
	}
	w.came[fmt.Sprint(kind, got)]++
}

// goesOn sends a member's frame, and lets it take the reply, or lose it.
func (w *crowd) goesOn(p *member) {
	w.Helper()
	kind := int(p.about.frame[0])
	r := w.sends(p.asker, p.about.frame)
	status := api.Status(r[0])
	w.wants(p, kind, status)
	if status == api.Done {
		w.changed(p, kind)
	}
	if w.r.Intn(15) == 0 {
		p.c.Cancel()
		p.about = thing{}
		return
	}
	s, e := p.c.Take(r)
	isOK(w.T, "Take", e)
	if s.Status != status || kind == api.AskRead && s.Plain != w.blocks[p.about.at] {
		w.Fatalf("kind %d at %+v: %s", kind, p.about.at, told(s))
	}
	p.about.frame, p.about.isForgotten = s.Frame, false
	if s.Over {
		p.about = thing{}
	}
}

// strange does what the tenant 4 likes: it has chunks of others, and sends what is no request.
func (w *crowd) strange() {
	w.Helper()
	at := w.anySpot(4)
	chunk, _ := sealed(keyOf([]string{"d", "e"}[w.r.Intn(2)]), plainOf(w.r.Intn(7)))
	switch w.r.Intn(5) {
	case 0:
		w.sends(w.r.Intn(5), plainOf(w.r.Int())[:w.r.Intn(256)])
	case 1:
		w.asks(4, api.Request{Kind: api.AskProve, Nonce: w.r.Intn(50), Sample: zeros(8)})
	case 2:
		w.asks(4, api.Request{Kind: api.AskOffer, Volume: at.volume, Block: at.block, Digest: sumOf(chunk), Wrapped: zeros(48)})
	case 3:
		if w.asks(4, api.Request{Kind: api.AskUpload, Volume: at.volume, Block: at.block, Wrapped: zeros(48), Data: chunk}) == api.Done {
			w.chunks[at] = chunk
		}
	default:
		if w.asks(4, api.Request{Kind: api.AskTrim, Volume: at.volume, Block: at.block}) == api.Done {
			delete(w.chunks, at)
		}
	}
}

// reopens opens the store: of the frames that are still to be sent, a Prove is then of a challenge that is forgotten.
func (w *crowd) reopens() {
	w.Helper()
	w.open()
	for _, p := range w.members {
		p.about.isForgotten = p.about.kind != 0
	}
}

func (w *crowd) moves() {
	w.Helper()
	switch n := w.r.Intn(40); {
	case n == 0:
		w.reopens()
	case n < 6:
		w.strange()
	default:
		p := w.members[w.r.Intn(len(w.members))]
		if p.about.kind == 0 {
			w.begins(p)
		} else {
			w.goesOn(p)
		}
	}
}

// looks reads all that can be there, by other clients of the same keys.
func (w *crowd) looks() {
	w.Helper()
	different := map[string]int{}
	for _, c := range w.chunks {
		different[c]++
	}
	w.has(len(different), len(w.chunks))
	for k, keys := range [][2]string{{"d", "m"}, {"d", "n"}, {"e", "m"}} {
		for _, volume := range []int{5, 6} {
			for _, block := range []int{0, 1, 2, 3, 29, 30, 57, 59} {
				at := spot{k + 1, volume, block}
				w.reads(personOf(w.T, k+1, keys[0], keys[1]), volume, block, w.blocks[at])
				if w.blocks[at] != "" {
					w.loses(personOf(w.T, k+1, keys[0], "x"), volume, block)
					w.loses(personOf(w.T, k+1, "x", keys[1]), volume, block)
				}
			}
		}
	}
}

// P6: whatever others do between its frames, each reads what it wrote last.
func Test15_6CrowdsByChance(t *testing.T) {
	came := map[string]int{}
	for seed := range 12 {
		w := crowdOf(t, int64(seed))
		for n := range 800 {
			w.moves()
			if n%200 == 199 {
				w.looks()
			}
		}
		for k, n := range w.came {
			came[k] += n
		}
	}
	for _, want := range []string{"8 1", "8 9", "8 12", "9 0", "9 2", "9 13", "10 0", "11 0", "11 9", "11 13", "12 0", "12 13"} {
		if came[want] < 5 {
			t.Errorf("kind and status %s came %d times", want, came[want])
		}
	}
}
