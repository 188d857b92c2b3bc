package server_test

import (
	"fmt"
	"math/rand"
	"slices"
	"testing"

	"strongbox/api"
	"strongbox/disk"
	"strongbox/server"
	"strongbox/wire"
)

// box is a server on a disk, and the model that it is held against.
type box struct {
	*testing.T
	d     *disk.Disk
	s     *server.Server
	m     *model
	draws int
}

func answers(t *testing.T, what string, got, want api.Errno) {
	t.Helper()
	if got != want {
		t.Fatalf("%s = %d, want %d", what, got, want)
	}
}

func newDisk(t *testing.T, sectors int) *disk.Disk {
	t.Helper()
	d, e := disk.New(sectors)
	answers(t, "New", e, api.OK)
	return d
}

func loaded(t *testing.T, l []string) *disk.Disk {
	t.Helper()
	d, e := disk.Load(l)
	answers(t, "Load", e, api.OK)
	return d
}

// begun is a box with an empty store.
func begun(t *testing.T, sectors int) *box {
	t.Helper()
	d := newDisk(t, sectors)
	answers(t, "Format", server.Format(d), api.OK)
	b := &box{T: t, d: d, m: newModel(sectors)}
	b.open()
	return b
}

// open opens the store anew.
func (b *box) open() {
	b.Helper()
	acts := len(b.d.Trace())
	s, e := server.Open(b.d)
	answers(b.T, "Open", e, api.OK)
	if done := len(b.d.Trace()) - acts; done != 0 && done != 19 {
		b.Fatalf("Open did %d acts", done)
	}
	b.s, b.m = s, b.m.reopened()
}

// copied is another box with what lasts of this one.
func (b *box) copied() *box {
	b.Helper()
	c := &box{T: b.T, d: loaded(b.T, b.d.Image()), m: b.m}
	c.open()
	return c
}

// drawOf is a draw of this number.
func drawOf(n int) string { return digestOf(number(n, 8))[:16] }

// text is a chunk of this number.
func text(n int) string {
	s := ""
	for k := range 8 {
		s += digestOf("text" + number(n, 8) + number(k, 1))
	}
	return s
}

// wrap is a wrapped key of this number.
func wrap(n int) string { return text(n + 1<<20)[:48] }

func add(k, quota int) api.Request {
	return api.Request{Kind: api.AskAddTenant, Tenant: k, Quota: quota}
}
func remove(k int) api.Request { return api.Request{Kind: api.AskRemoveTenant, Tenant: k} }
func look(k int) api.Request   { return api.Request{Kind: api.AskTenant, Tenant: k} }
func vol(n int) api.Request    { return api.Request{Kind: api.AskAddVolume, Volume: n} }
func unvol(n int) api.Request  { return api.Request{Kind: api.AskRemoveVolume, Volume: n} }
func vols() api.Request        { return api.Request{Kind: api.AskVolumes} }
func stat() api.Request        { return api.Request{Kind: api.AskStat} }

// offer is one of the chunk c, with the wrapped key w.
func offer(n, b, c, w int) api.Request {
	return api.Request{Kind: api.AskOffer, Volume: n, Block: b, Digest: digestOf(text(c)), Wrapped: wrap(w)}
}

func prove(nonce int, sample string) api.Request {
	return api.Request{Kind: api.AskProve, Nonce: nonce, Sample: sample}
}

// upload is one of the chunk c, with the wrapped key w.
func upload(n, b, c, w int) api.Request {
	return api.Request{Kind: api.AskUpload, Volume: n, Block: b, Wrapped: wrap(w), Data: text(c)}
}
func read(n, b int) api.Request { return api.Request{Kind: api.AskRead, Volume: n, Block: b} }
func trim(n, b int) api.Request { return api.Request{Kind: api.AskTrim, Volume: n, Block: b} }

func frameOf(t *testing.T, r api.Request) string {
	t.Helper()
	f, e := wire.EncodeRequest(r)
	if e != api.OK {
		t.Fatalf("EncodeRequest(%+v) = %d", r, e)
	}
	return f
}

func replyOf(t *testing.T, kind int, r api.Reply) string {
	t.Helper()
	f, e := wire.EncodeReply(kind, r)
	if e != api.OK {
		t.Fatalf("EncodeReply(%d, %+v) = %d", kind, r, e)
	}
	return f
}

// told is a request as a test tells of it.
func told(asker int, r api.Request) string {
	if len(r.Data) > 2 {
		r.Data = r.Data[:2]
	}
	r.Wrapped, r.Digest = r.Wrapped[:min(2, len(r.Wrapped))], r.Digest[:min(2, len(r.Digest))]
	return fmt.Sprintf("%d asks %+v", asker, r)
}

// does asks a request of the server and of the model: the replies must be the same, and the acts what they must be.
func (b *box) does(asker int, r api.Request) api.Reply {
	b.Helper()
	b.draws++
	frame, draw := frameOf(b.T, r), drawOf(b.draws)
	want := b.m.answer(asker, r, draw)
	acts := len(b.d.Trace())
	got, e := b.s.Handle(asker, frame, draw)
	if e != api.OK || got != replyOf(b.T, r.Kind, want) {
		reply, _ := wire.DecodeReply(r.Kind, got)
		b.Fatalf("%s: %+v, %d, want %+v", told(asker, r), reply, e, want)
	}
	isShaped(b.T, told(asker, r), b.d.Trace()[acts:], changes(r.Kind, want.Status))
	return want
}

// isShaped looks at the acts of a request, which changes something or does not.
func isShaped(t *testing.T, what string, acts []api.Act, changes bool) {
	t.Helper()
	if !changes {
		if len(acts) != 0 {
			t.Fatalf("%s: acts %v, want none", what, acts)
		}
		return
	}
	if len(acts) != 38 {
		t.Fatalf("%s: %d acts, want 38", what, len(acts))
	}
	for n, a := range acts {
		want := api.Act{Kind: api.ActWrite}
		switch {
		case n == 16 || n == 18 || n == 35 || n == 37:
			want.Kind = api.ActFlush
		case n < 16:
			want.Sector = 2 + n
		case n == 17 || n == 36:
			want.Sector = 1
		default:
			want.Sector = max(a.Sector, 18)
		}
		if a != want {
			t.Fatalf("%s: act %d is %v, want %v", what, n+1, a, want)
		}
	}
}

// asks does a request that must go so.
func (b *box) asks(asker int, r api.Request, want api.Status) {
	b.Helper()
	if got := b.does(asker, r); got.Status != want {
		b.Fatalf("%s: status %d, want %d", told(asker, r), got.Status, want)
	}
	b.stands()
}

// stands holds what lasts on the disk, and the totals, against the model (P7), and the totals against one another (P5).
func (b *box) stands() {
	b.Helper()
	x, want := b.totals(), b.m.totals()
	if x != want || x.Chunks+x.Pages > x.Charged || x.Charged > x.Promised || x.Promised > x.Capacity {
		b.Fatalf("Totals = %+v, want %+v", x, want)
	}
	if !b.isOnDisk(b.m) {
		b.Fatal("the disk is not what it must be")
	}
}

func (b *box) totals() api.Totals {
	b.Helper()
	acts := len(b.d.Trace())
	x, e := b.s.Totals()
	answers(b.T, "Totals", e, api.OK)
	isShaped(b.T, "Totals", b.d.Trace()[acts:], false)
	return x
}

// isOnDisk tells whether just what a model says lasts.
func (b *box) isOnDisk(m *model) bool {
	return slices.Equal(b.d.Image()[19:], m.image())
}

// tells asks all that can be asked without changing anything.
func (b *box) tells() {
	b.Helper()
	for k := 1; k <= 8; k++ {
		b.does(0, look(k))
		b.does(k, vols())
		b.does(k, stat())
		if b.m.owners[k] == nil {
			continue
		}
		for _, n := range b.m.owners[k].numbers() {
			for i := range 61 {
				b.does(k, read(n, i))
			}
		}
	}
	b.stands()
}

// proves offers a chunk, and proves that the asker has it.
func (b *box) proves(asker, n, i, c, w int, want api.Status) {
	b.Helper()
	r := b.does(asker, offer(n, i, c, w))
	if r.Status != api.Challenge {
		b.Fatalf("Offer: status %d", r.Status)
	}
	b.asks(asker, prove(r.Nonce, sampleOf(text(c), r.Places)), want)
}

// furnished is a store in which tenants have much, little or nothing.
func furnished(t *testing.T, sectors int) *box {
	t.Helper()
	b := begun(t, sectors)
	for _, q := range [][2]int{{1, 40}, {2, 20}, {3, 0}, {4, 3}, {8, 5}} {
		b.asks(0, add(q[0], q[1]), api.Done)
	}
	b.asks(1, vol(7), api.Done)
	b.asks(1, vol(5), api.Done)
	b.asks(2, vol(5), api.Done)
	b.asks(4, vol(99), api.Done)
	b.asks(1, upload(5, 0, 10, 0), api.Done)
	b.asks(1, upload(5, 1, 11, 1), api.Done)
	b.asks(1, upload(5, 3, 10, 2), api.Done)
	b.asks(2, upload(5, 0, 10, 3), api.Done)
	b.asks(2, upload(5, 1, 12, 4), api.Done)
	b.asks(2, upload(5, 6, 13, 5), api.Done)
	b.asks(4, upload(99, 59, 14, 6), api.Done)
	return b
}

func upTo(n int) []int {
	l := make([]int, n)
	for i := range l {
		l[i] = i
	}
	return l
}

// some are numbers below n, each with so many chances of four.
func some(r *rand.Rand, n, of4 int) []int {
	return slices.DeleteFunc(upTo(n), func(int) bool { return r.Intn(4) >= of4 })
}

// keeps are choices among so many pending writes: none, all, each one alone, all but one, and by chance.
func keeps(r *rand.Rand, pending int) [][]int {
	l := [][]int{nil, upTo(pending)}
	for n := range pending {
		l = append(l, []int{n}, slices.DeleteFunc(upTo(pending), func(k int) bool { return k == n }))
	}
	return append(l, some(r, pending, 1), some(r, pending, 2), some(r, pending, 3))
}
