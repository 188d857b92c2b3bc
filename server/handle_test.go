package server_test

import (
	"math"
	"slices"
	"strings"
	"testing"

	"strongbox/api"
	"strongbox/pack"
	"strongbox/server"
	"strongbox/wire"
)

// everyKind are requests of each kind, some of each.
func everyKind() []api.Request {
	return []api.Request{
		add(1, 0), add(8, 65535), add(5, 1), remove(1), remove(8), look(1), look(8), look(5),
		vol(1), vol(99), vol(5), unvol(1), unvol(7), vols(), stat(),
		offer(5, 0, 1, 1), offer(1, 255, 1, 1), prove(0, "12345678"), prove(1, "12345678"), prove(math.MaxUint32, "12345678"),
		upload(5, 0, 1, 1), upload(99, 60, 1, 1), read(5, 0), read(5, 59), read(99, 60), trim(5, 0), trim(5, 59), trim(1, 255),
	}
}

// handles asks a frame, and looks at the answer.
func (b *box) handles(asker int, frame, draw, want string, errno api.Errno) {
	b.Helper()
	acts := len(b.d.Trace())
	if s, e := b.s.Handle(asker, frame, draw); s != want || e != errno {
		b.Fatalf("Handle(%d, %q, %q) = %q, %d, want %q, %d", asker, frame, draw, s, e, want, errno)
	}
	if len(b.d.Trace()) != acts {
		b.Fatalf("Handle(%d, %q, %q) did acts", asker, frame, draw)
	}
}

func TestV4TheChaptersExamples(t *testing.T) {
	b := begun(t, 128)
	b.handles(9, "", "", "", api.ErrServerAsker)
	b.handles(0, "", "", "", api.ErrArg)
	s, e := b.s.Handle(0, "", drawOf(1))
	if e != api.OK || len(s) != 5 || s[0] != 3 {
		t.Errorf("Handle = %q, %d", s, e)
	}
	b.handles(0, "", drawOf(1), replyOf(t, 0, bare(api.BadFrame)), api.OK)
}

func TestV4AskersThatMayNotBe(t *testing.T) {
	b := furnished(t, 128)
	draws := []string{"", drawOf(1)[:15], drawOf(1), drawOf(1) + "d", strings.Repeat("d", 4096)}
	for _, asker := range []int{-1, 9, 10, -8, 256, 257, 1 << 32, 1<<32 + 1, math.MinInt, math.MinInt + 1, math.MaxInt} {
		for _, draw := range draws {
			b.handles(asker, "", draw, "", api.ErrServerAsker)
			for _, r := range everyKind() {
				b.handles(asker, frameOf(t, r), draw, "", api.ErrServerAsker)
			}
		}
	}
	b.tells()
}

func TestV4DrawsThatMayNotBe(t *testing.T) {
	b := furnished(t, 128)
	for asker := range 9 {
		for _, draw := range []string{"", "d", drawOf(1)[:15], drawOf(1) + "d", drawOf(1) + drawOf(2), strings.Repeat("d", 4096)} {
			b.handles(asker, "", draw, "", api.ErrArg)
			b.handles(asker, "\x0d", draw, "", api.ErrArg)
			for _, r := range everyKind() {
				b.handles(asker, frameOf(t, r), draw, "", api.ErrArg)
			}
		}
	}
	// Nothing was done: no challenge was made or taken.
	b.tells()
	if r := b.does(1, offer(5, 0, 1, 1)); r.Nonce != 1 {
		t.Errorf("the nonce is %d", r.Nonce)
	}
	b.handles(1, frameOf(t, prove(1, "12345678")), "", "", api.ErrArg)
	b.asks(1, prove(1, "12345678"), api.Need)
}

// wrongFrames are texts that are no requests.
func wrongFrames(t *testing.T) []string {
	t.Helper()
	l := []string{"", "\x00", "\x01", "\x07", "\x0c", "\x0d", "\xff", noughts(5), noughts(8), text(1), strings.Repeat("x", 5000)}
	for _, r := range everyKind() {
		f := frameOf(t, r)
		l = append(l, f[:len(f)-1], f+"\x00", f[1:], f+f)
		for at := range min(len(f), 12) {
			l = append(l, changed(f, at, 1), changed(f, len(f)-1-at, 128))
		}
	}
	// Fields that may not be, with a right check.
	for _, body := range []string{"\x00", "\x0d", "\x01\x00\x00\x01", "\x01\x09\x00\x01", "\x02\x00", "\x02\x09", "\x03\xff", "\x04\x00", "\x04\x64", "\x05\xff", "\x0b\x00\x01", "\x0c\x64\x00"} {
		l = append(l, checked(body))
	}
	return l
}

// checked is a text with its check behind it.
func checked(body string) string {
	n := pack.Check(body)
	return body + string([]byte{byte(n), byte(n >> 8), byte(n >> 16), byte(n >> 24)})
}

func TestV4WhatIsNoRequest(t *testing.T) {
	b := furnished(t, 128)
	want := replyOf(t, 0, bare(api.BadFrame))
	for _, f := range wrongFrames(t) {
		if _, e := wire.DecodeRequest(f); e == api.OK {
			t.Fatalf("%q is a request", f)
		}
		for asker := range 9 {
			b.handles(asker, f, drawOf(1), want, api.OK)
		}
	}
	b.tells()
}

// Whoever asks what: the model says who may.
func TestV4EachKindByEachAsker(t *testing.T) {
	for _, r := range everyKind() {
		b := furnished(t, 128)
		for asker := range 9 {
			want := (asker == 0) == (r.Kind <= 3)
			got := b.does(asker, r).Status
			if (got != api.NotAllowed) != want {
				t.Errorf("%s: status %d", told(asker, r), got)
			}
			there := asker == 0 || b.m.owners[asker] != nil
			if want && !there && got != api.NoTenant {
				t.Errorf("%s: status %d", told(asker, r), got)
			}
			b.stands()
		}
	}
}

func TestV4NotAllowedIsToldAheadOfAllElse(t *testing.T) {
	b := begun(t, 128)
	for k := 1; k <= 8; k++ {
		// Nobody is there, and neither is who is asked about.
		for _, r := range []api.Request{add(k, 0), add(9-k, 65535), remove(k), look(k)} {
			b.asks(k, r, api.NotAllowed)
		}
	}
	for _, r := range everyKind() {
		if r.Kind > 3 {
			b.asks(0, r, api.NotAllowed)
			b.asks(8, r, api.NoTenant)
		}
	}
}

// A reply is one to the kind of its request, and no other one.
func TestV4RepliesAreOfTheKindOfTheirRequest(t *testing.T) {
	b := furnished(t, 128)
	for _, r := range everyKind() {
		for _, asker := range []int{0, 1, 7} {
			s, e := b.s.Handle(asker, frameOf(t, r), drawOf(1))
			answers(t, "Handle", e, api.OK)
			for kind := range 13 {
				_, e := wire.DecodeReply(kind, s)
				if (e == api.OK) != (kind == r.Kind) {
					t.Errorf("the reply to kind %d read as one to %d: %d", r.Kind, kind, e)
				}
			}
		}
	}
}

// isLost looks at a server that has answered ErrDead, or whose disk is dead.
func (b *box) isLost() {
	b.Helper()
	for range 2 {
		for asker := range 9 {
			b.handles(asker, "", drawOf(1), "", api.ErrDead)
			b.handles(asker, "no request", drawOf(1), "", api.ErrDead)
			for _, r := range everyKind() {
				b.handles(asker, frameOf(b.T, r), drawOf(1), "", api.ErrDead)
			}
		}
		if x, e := b.s.Totals(); x != (api.Totals{}) || e != api.ErrDead {
			b.Fatalf("Totals = %+v, %d", x, e)
		}
		// These are told ahead of it.
		b.handles(-1, "", "", "", api.ErrServerAsker)
		b.handles(9, "", drawOf(1), "", api.ErrServerAsker)
		b.handles(0, "", "", "", api.ErrArg)
		b.handles(8, "", drawOf(1)+"d", "", api.ErrArg)
	}
}

func TestV4AServerWhoseDiskIsDeadIsLost(t *testing.T) {
	b := furnished(t, 128)
	b.tells()
	kill(t, b.d)
	b.isLost()
	answers(t, "Crash", b.d.Crash(nil), api.OK)
	// The disk lives again, the server does not.
	b.isLost()
	b.open()
	b.tells()
}

// Whichever call is the first to tell it: from then on all do.
func TestV4OneAnswerErrDeadIsEnough(t *testing.T) {
	first := []func(b *box) api.Errno{
		func(b *box) api.Errno { _, e := b.s.Totals(); return e },
		func(b *box) api.Errno { _, e := b.s.Handle(0, "", drawOf(1)); return e },
		func(b *box) api.Errno { _, e := b.s.Handle(1, frameOf(b.T, stat()), drawOf(1)); return e },
		func(b *box) api.Errno { _, e := b.s.Handle(1, frameOf(b.T, add(1, 1)), drawOf(1)); return e },
		func(b *box) api.Errno { _, e := b.s.Handle(1, frameOf(b.T, upload(7, 0, 1, 1)), drawOf(1)); return e },
	}
	for _, tell := range first {
		b := furnished(t, 128)
		kill(t, b.d)
		answers(t, "the first call", tell(b), api.ErrDead)
		answers(t, "Crash", b.d.Crash(nil), api.OK)
		b.isLost()
	}
}

// A call that is refused for its arguments has not told of the disk.
func TestV4ErrorsOfArgumentsLoseNoServer(t *testing.T) {
	b := furnished(t, 128)
	kill(t, b.d)
	b.handles(9, "", "", "", api.ErrServerAsker)
	b.handles(1, frameOf(t, stat()), "", "", api.ErrArg)
	answers(t, "Crash", b.d.Crash(nil), api.OK)
	b.tells()
	b.asks(1, upload(7, 0, 1, 1), api.Done)
}

// The draw is used by an Offer alone.
func TestV4TheDrawIsUsedByAnOfferAlone(t *testing.T) {
	for _, r := range everyKind() {
		for _, asker := range []int{0, 1} {
			replies := map[string]int{}
			for n := range 4 {
				b := furnished(t, 128)
				s, e := b.s.Handle(asker, frameOf(t, r), drawOf(100+n))
				answers(t, "Handle", e, api.OK)
				replies[s]++
			}
			if r.Kind == api.AskOffer && r.Block < 60 && asker == 1 {
				if len(replies) == 1 {
					t.Error("an Offer does not hang on its draw")
				}
			} else if len(replies) != 1 {
				t.Errorf("%s: %d replies", told(asker, r), len(replies))
			}
		}
	}
}

func TestV4AServerThatIsNone(t *testing.T) {
	for _, s := range []*server.Server{nil, {}} {
		_, e := s.Handle(0, "", drawOf(1))
		answers(t, "Handle", e, api.ErrDead)
		_, e = s.Handle(9, "", "")
		answers(t, "Handle", e, api.ErrServerAsker)
		_, e = s.Totals()
		answers(t, "Totals", e, api.ErrDead)
	}
}

// Servers of two disks know nothing of one another.
func TestR2ServersDoNotDisturbOneAnother(t *testing.T) {
	a, b := furnished(t, 128), furnished(t, 128)
	if !slices.Equal(a.d.Image(), b.d.Image()) {
		t.Fatal("the same requests make two images")
	}
	a.asks(1, upload(7, 0, 20, 20), api.Done)
	a.does(1, offer(7, 1, 20, 20))
	b.tells()
	if r := b.does(1, offer(7, 1, 20, 20)); r.Nonce != 1 {
		t.Errorf("the nonce is %d", r.Nonce)
	}
	kill(t, a.d)
	a.isLost()
	b.tells()
	b.asks(1, trim(5, 0), api.Done)
}
