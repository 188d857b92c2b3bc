package wire_test

import (
	"math"
	"math/rand"
	"testing"

	"strongbox/api"
	"strongbox/wire"
)

// chanceRequest is a request of a kind by chance.
func chanceRequest(r *rand.Rand, kind int) api.Request {
	of := api.Request{Kind: kind}
	for _, name := range requestNames(kind) {
		of = with(of, name, chanceOf(r, name))
	}
	return of
}

// chanceReply is a reply to a kind by chance; most are full.
func chanceReply(r *rand.Rand, kind int) api.Reply {
	of := fullReply(kind, 0)
	if status := api.Status(r.Intn(14)); r.Intn(3) == 0 && !isFull(kind, status) {
		return api.Reply{Status: status}
	}
	for _, name := range replyNames(kind) {
		of = with(of, name, chanceOf(r, name))
	}
	return of
}

func Test12_6RequestsThroughBoth(t *testing.T) {
	chance := rand.New(rand.NewSource(12))
	for kind := 1; kind <= 12; kind++ {
		size := 5 + sizesOf(requestNames(kind))
		for k := range 500 {
			r := chanceRequest(chance, kind)
			if k < 20 {
				r = rightRequest(kind, k)
			}
			s, e := wire.EncodeRequest(r)
			if e != api.OK || len(s) != size {
				t.Fatalf("EncodeRequest(%+v) = %x, %d, want %d bytes", r, s, e, size)
			}
			decodesRequest(t, s, r, api.OK)
			encodesRequest(t, r, s, api.OK)
		}
	}
}

func Test12_6RepliesThroughBoth(t *testing.T) {
	chance := rand.New(rand.NewSource(126))
	for kind := range 13 {
		size, _ := wire.ReplySize(kind)
		l := repliesTo(kind)
		for range 500 {
			l = append(l, chanceReply(chance, kind))
		}
		for _, r := range l {
			s, e := wire.EncodeReply(kind, r)
			if e != api.OK || len(s) != size {
				t.Fatalf("EncodeReply(%d, %+v) = %x, %d, want %d bytes", kind, r, s, e, size)
			}
			got, e := wire.DecodeReply(kind, s)
			if !sameReply(got, r) || e != api.OK {
				t.Fatalf("DecodeReply(%d, %x) = %+v, %d, want %+v", kind, s, got, e, r)
			}
			encodesReply(t, kind, got, s, api.OK)
		}
	}
}

// changedFrame is a frame in which some bytes are others, mostly such that matter, ahead of the check.
func changedFrame(r *rand.Rand, s string) string {
	b := []byte(s)
	for range r.Intn(4) {
		at := r.Intn(len(b))
		if r.Intn(2) == 0 {
			at = r.Intn(min(len(b), 16))
		}
		b[at] = byte([]int{0, 1, 8, 9, 12, 13, 14, 99, 100, 255, r.Intn(256)}[r.Intn(11)])
	}
	return string(b)
}

// What Decode takes, Encode makes; all else is refused, as the model says.
func Test12_6FramesThroughBoth(t *testing.T) {
	chance := rand.New(rand.NewSource(1206))
	seen := map[api.Errno]int{}
	for range 40000 {
		kind := 1 + chance.Intn(12)
		s, _ := wantRequest(chanceRequest(chance, kind))
		s = requestFrame(changedFrame(chance, s[:len(s)-4]))
		want, errno := readRequest(s)
		seen[errno]++
		decodesRequest(t, s, want, errno)
		if got, e := wire.DecodeRequest(s); e == api.OK {
			encodesRequest(t, got, s, api.OK)
		}
	}
	for _, e := range []api.Errno{api.OK, api.ErrWireKind, api.ErrWireForm, api.ErrWireField} {
		if seen[e] < 100 {
			t.Errorf("%d requests are answered %d", seen[e], e)
		}
	}
	clear(seen)
	for range 40000 {
		kind := chance.Intn(13)
		s, _ := wantReply(kind, chanceReply(chance, kind))
		s = changedFrame(chance, s[:len(s)-4])
		to := kind
		if chance.Intn(20) == 0 {
			to = chance.Intn(16) - 1
		}
		s = replyFrame(kind, s)
		want, errno := readReply(to, s)
		seen[errno]++
		decodesReply(t, to, s, want, errno)
		if got, e := wire.DecodeReply(to, s); e == api.OK {
			encodesReply(t, to, got, s, api.OK)
		}
	}
	for _, e := range []api.Errno{api.OK, api.ErrWireKind, api.ErrWireForm, api.ErrWireField} {
		if seen[e] < 100 {
			t.Errorf("%d replies are answered %d", seen[e], e)
		}
	}
}

// valuesOf is, for each name, values that the field may be and such that it may not.
func valuesOf(names []string) map[string][2][]any {
	all := map[string][2][]any{}
	for _, name := range names {
		all[name] = [2][]any{rightOnes(name), wrongOnes(name)}
	}
	return all
}

// spoilt is a request or a reply in which some parts are what they may not be, or should not be there.
func spoilt[T any](r *rand.Rand, of T, values map[string][2][]any) T {
	names := namesOf(of)
	for range r.Intn(3) {
		name := names[r.Intn(len(names))]
		l := values[name][r.Intn(2)]
		of = with(of, name, l[r.Intn(len(l))])
	}
	return of
}

func Test12_6WhateverIsHandedIn(t *testing.T) {
	chance := rand.New(rand.NewSource(61))
	seen := map[[2]api.Errno]int{}
	inRequests, inReplies := valuesOf(namesOf(api.Request{})), valuesOf(namesOf(api.Reply{}))
	for range 40000 {
		r := spoilt(chance, chanceRequest(chance, 1+chance.Intn(12)), inRequests)
		if chance.Intn(20) == 0 {
			r.Kind = chance.Intn(16) - 1
		}
		want, errno := wantRequest(r)
		seen[[2]api.Errno{0, errno}]++
		encodesRequest(t, r, want, errno)
		kind := chance.Intn(13)
		y := spoilt(chance, chanceReply(chance, kind), inReplies)
		if chance.Intn(20) == 0 {
			y.Status = api.Status(chance.Intn(17) - 1)
		}
		if chance.Intn(20) == 0 {
			kind = chance.Intn(16) - 1
		}
		want, errno = wantReply(kind, y)
		seen[[2]api.Errno{1, errno}]++
		encodesReply(t, kind, y, want, errno)
	}
	for which := range api.Errno(2) {
		for _, e := range []api.Errno{api.OK, api.ErrWireKind, api.ErrWireField} {
			if n := seen[[2]api.Errno{which, e}]; n < 100 {
				t.Errorf("%d of %d are answered %d", n, which, e)
			}
		}
	}
}

// turned is a frame with the bits turned that a pattern tells, from a bit on, counted from the lowest of each byte.
func turned(s string, from int, pattern uint32) string {
	b := []byte(s)
	for i := range 32 {
		if pattern>>i&1 == 1 && from+i < 8*len(b) {
			b[(from+i)/8] ^= 1 << ((from + i) % 8)
		}
	}
	return string(b)
}

// patterns are bits within 32 side by side, the first among them.
func patterns(r *rand.Rand) []uint32 {
	return []uint32{1, 3, 255, 1<<31 | 1, math.MaxUint32, 3988292384 | 1, 1 | r.Uint32(), 1 | r.Uint32(), 1 | r.Uint32()>>16, 1 | r.Uint32()>>24}
}

func Test12_6TurnedBitsAreRefusedAsRequests(t *testing.T) {
	chance := rand.New(rand.NewSource(32))
	for kind := 1; kind <= 12; kind++ {
		for k := range 4 {
			s, _ := wantRequest(rightRequest(kind, k))
			for from := range 8 * len(s) {
				for _, pattern := range patterns(chance) {
					if r, e := wire.DecodeRequest(turned(s, from, pattern)); r != (api.Request{}) || e != api.ErrWireForm && e != api.ErrWireKind {
						t.Errorf("%x with the bits %x turned from %d on: %+v, %d", s, pattern, from, r, e)
					}
				}
			}
		}
	}
}

func Test12_6TurnedBitsAreRefusedAsReplies(t *testing.T) {
	chance := rand.New(rand.NewSource(33))
	for kind := range 13 {
		for _, r := range []api.Reply{fullReply(kind, 0), fullReply(kind, 3), {Status: api.NotAllowed}, {Status: api.Unmapped}} {
			s, _ := wantReply(kind, r)
			for from := range 8 * len(s) {
				for _, pattern := range patterns(chance) {
					decodesReply(t, kind, turned(s, from, pattern), api.Reply{}, api.ErrWireForm)
				}
			}
		}
	}
}

// Each two bits that lie within 32, in the shortest frames, across the check.
func Test12_6TwoTurnedBits(t *testing.T) {
	for kind := 1; kind <= 12; kind++ {
		s, _ := wantRequest(rightRequest(kind, 0))
		reply, _ := wantReply(kind, api.Reply{Status: api.NotAllowed})
		for second := range 32 {
			for from := max(0, 8*len(s)-96); from < 8*len(s); from++ {
				if _, e := wire.DecodeRequest(turned(s, from, 1|1<<second)); e == api.OK {
					t.Errorf("%x with two bits turned, from %d on, is taken", s, from)
				}
			}
			for from := max(0, 8*len(reply)-96); from < 8*len(reply); from++ {
				decodesReply(t, kind, turned(reply, from, 1|1<<second), api.Reply{}, api.ErrWireForm)
			}
		}
	}
}
