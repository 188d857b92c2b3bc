package wire_test

import (
	"math"
	"slices"
	"testing"

	"strongbox/api"
	"strongbox/wire"
)

// reply is one to a kind, with its bytes ahead of the check.
type reply struct {
	kind  int
	r     api.Reply
	bytes string
}

// replies are some to each kind and to none, written out.
func replies() []reply {
	eight := []int{1, 2, 3, 4, 5, 6, 98, 99}
	places := []int{0, 1, 2, 3, 4, 5, 6, 255}
	l := []reply{
		{0, api.Reply{Status: api.BadFrame}, "\x03"},
		{0, api.Reply{}, "\x00"},
		{1, api.Reply{}, "\x00"},
		{1, api.Reply{Status: api.NoRoom}, "\x07"},
		{2, api.Reply{Status: api.NotEmpty}, "\x08"},
		{3, api.Reply{Quota: 258, Charge: 3, Volumes: []int{2, 99}}, "\x00\x01\x02\x00\x03\x02\x02\x63\x00\x00\x00\x00\x00\x00"},
		{3, api.Reply{Quota: 65535, Charge: 65535, Volumes: eight}, "\x00\xff\xff\xff\xff\x08\x01\x02\x03\x04\x05\x06\x62\x63"},
		{3, api.Reply{}, "\x00" + noughts(13)},
		{3, api.Reply{Status: api.NoTenant}, "\x05" + noughts(13)},
		{4, api.Reply{Status: api.TooMany}, "\x0a"},
		{5, api.Reply{}, "\x00"},
		{6, api.Reply{Volumes: []int{1}}, "\x00\x01\x01" + noughts(7)},
		{6, api.Reply{Volumes: eight}, "\x00\x08\x01\x02\x03\x04\x05\x06\x62\x63"},
		{6, api.Reply{}, "\x00" + noughts(9)},
		{6, api.Reply{Status: api.NotAllowed}, "\x04" + noughts(9)},
		{7, api.Reply{Quota: 1, Charge: 65535}, "\x00\x00\x01\xff\xff"},
		{7, api.Reply{Status: api.Challenge}, "\x01" + noughts(4)},
		{8, api.Reply{Status: api.Challenge, Nonce: 1<<24 + 2<<16 + 3<<8 + 4, Places: places}, "\x01\x01\x02\x03\x04\x00\x01\x02\x03\x04\x05\x06\xff"},
		{8, api.Reply{Status: api.Challenge, Places: make([]int, 8)}, "\x01" + noughts(12)},
		{8, api.Reply{}, "\x00" + noughts(12)},
		{8, api.Reply{Status: api.OverQuota}, "\x0c" + noughts(12)},
		{9, api.Reply{Status: api.Need}, "\x02"},
		{10, api.Reply{Status: api.OutOfRange}, "\x0b"},
		{11, api.Reply{Wrapped: wrapped, Data: data}, "\x00" + wrapped + data},
		{11, api.Reply{Wrapped: noughts(48), Data: noughts(256)}, noughts(305)},
		{11, api.Reply{Status: api.NoVolume}, "\x09" + noughts(304)},
		{12, api.Reply{Status: api.Unmapped}, "\x0d"},
	}
	return l
}

func Test12_3RepliesToEachKind(t *testing.T) {
	for _, c := range replies() {
		encodesReply(t, c.kind, c.r, replyFrame(c.kind, c.bytes), api.OK)
	}
}

func Test12_3Example(t *testing.T) {
	s, e := wire.EncodeReply(api.AskRead, api.Reply{Status: api.NoVolume})
	if e != api.OK || len(s) != 309 || s[:305] != "\x09"+noughts(304) || s[305:] != sum("\x0b\x09"+noughts(304)) {
		t.Errorf("NoVolume to a Read: %x, %d", s, e)
	}
}

func Test12_3Kinds(t *testing.T) {
	for _, kind := range append(noNumbers(), -1, 13, 14, 255, 256, 264) {
		for _, r := range []api.Reply{{}, {Status: 14}, {Status: -1, Quota: -1}, {Volumes: []int{0}}, fullReply(8, 0), fullReply(11, 1)} {
			encodesReply(t, kind, r, "", api.ErrWireKind)
		}
	}
	for kind := range 13 {
		for _, r := range repliesTo(kind) {
			want, _ := wantReply(kind, r)
			encodesReply(t, kind, r, want, api.OK)
		}
	}
}

func Test12_3Statuses(t *testing.T) {
	for kind := range 13 {
		for _, n := range append(noNumbers(), -1, 14, 15, 255, 256, 257, 1<<32+1) {
			for _, r := range []api.Reply{{}, fullReply(kind, 1), {Quota: -1, Data: "x"}} {
				r.Status = api.Status(n)
				encodesReply(t, kind, r, "", api.ErrWireField)
			}
		}
		for status := range api.Status(14) {
			r := api.Reply{Status: status}
			want, errno := wantReply(kind, r)
			encodesReply(t, kind, r, want, errno)
			// Of the full ones only that to an Offer and that to a Read say nothing that may not be empty.
			if isRefused := kind == 8 && status == 1 || kind == 11 && status == 0; isRefused != (errno != api.OK) {
				t.Errorf("kind %d, status %d alone: %d", kind, status, errno)
			}
		}
	}
}

func Test12_3EachFieldOfAFullReply(t *testing.T) {
	for kind := range 13 {
		for _, name := range replyNames(kind) {
			for k, value := range rightOnes(name) {
				r := with(fullReply(kind, k), name, value)
				encodesReply(t, kind, r, replyFrame(kind, one(int(r.Status))+must(body(r, replyNames(kind)))), api.OK)
			}
			for k, value := range wrongOnes(name) {
				encodesReply(t, kind, with(fullReply(kind, k), name, value), "", api.ErrWireField)
			}
		}
	}
}

func Test12_3NumbersAtTheirEdges(t *testing.T) {
	places := []int{0, 1, 2, 3, 4, 5, 6, 255}
	for _, c := range []struct {
		kind         int
		r            api.Reply
		name         string
		right, wrong []int
	}{
		{3, api.Reply{}, "Quota", []int{0, 65535}, []int{-1, 65536, math.MinInt, math.MaxInt}},
		{3, api.Reply{}, "Charge", []int{0, 65535}, []int{-1, 65536, math.MinInt, math.MaxInt}},
		{7, api.Reply{}, "Quota", []int{0, 65535}, []int{-1, 65536, math.MinInt, math.MaxInt}},
		{7, api.Reply{}, "Charge", []int{0, 65535}, []int{-1, 65536, math.MinInt, math.MaxInt}},
		{8, api.Reply{Status: api.Challenge, Places: places}, "Nonce", []int{0, 4294967295}, []int{-1, 4294967296, math.MinInt, math.MaxInt}},
	} {
		for _, n := range c.right {
			if s, e := wire.EncodeReply(c.kind, with(c.r, c.name, n)); s == "" || e != api.OK {
				t.Errorf("to kind %d, %s %d: %x, %d", c.kind, c.name, n, s, e)
			}
		}
		for _, n := range c.wrong {
			encodesReply(t, c.kind, with(c.r, c.name, n), "", api.ErrWireField)
		}
	}
}

// A charge is no less a charge where it is above the quota: the wire does not know what they mean.
func Test12_3AChargeMayBeAboveTheQuota(t *testing.T) {
	encodesReply(t, api.AskStat, api.Reply{Quota: 1, Charge: 2}, replyFrame(7, "\x00\x00\x01\x00\x02"), api.OK)
}

// A field that the reply does not have: because it is not one to that kind, or because it is not full.
func Test12_3FieldsThatItDoesNotHave(t *testing.T) {
	for kind := range 13 {
		for status := range api.Status(14) {
			for _, name := range namesOf(api.Reply{}) {
				if isFull(kind, status) && slices.Contains(replyNames(kind), name) {
					continue
				}
				for k, value := range append(rightOnes(name), wrongOnes(name)...) {
					r := api.Reply{Status: status}
					if isFull(kind, status) {
						r = fullReply(kind, k)
					}
					r = with(r, name, value)
					if isEmpty(value) {
						want, _ := wantReply(kind, r)
						encodesReply(t, kind, r, want, api.OK)
						continue
					}
					encodesReply(t, kind, r, "", api.ErrWireField)
				}
			}
		}
	}
}

// To an Offer Challenge is full and Done is not; to all others it is the other way round.
func Test12_3WhichRepliesAreFull(t *testing.T) {
	for _, kind := range []int{3, 6, 7, 8, 11} {
		full := fullReply(kind, 2)
		for status := range api.Status(14) {
			full.Status = status
			_, e := wire.EncodeReply(kind, full)
			want := api.ErrWireField
			if kind == api.AskOffer && status == api.Challenge || kind != api.AskOffer && status == api.Done {
				want = api.OK
			}
			if e != want {
				t.Errorf("a reply %d to kind %d with its fields: %d, want %d", status, kind, e, want)
			}
		}
	}
}

func Test12_4RepliesToEachKind(t *testing.T) {
	for _, c := range replies() {
		decodesReply(t, c.kind, replyFrame(c.kind, c.bytes), c.r, api.OK)
	}
}

func Test12_4Kinds(t *testing.T) {
	for _, kind := range append(noNumbers(), -1, 13, 14, 255, 256, 264) {
		for _, s := range []string{"", "\x00", "\x0e", replyFrame(kind, "\x00"), replyFrame(kind&15, "\x00"), replyFrame(kind, "\x0e"), noughts(65536)} {
			decodesReply(t, kind, s, api.Reply{}, api.ErrWireKind)
		}
	}
}

// A reply read as one to another kind is refused, also where both have as many bytes.
func Test12_4RepliesToOtherKinds(t *testing.T) {
	for _, c := range replies() {
		for kind := range 13 {
			if kind != c.kind {
				decodesReply(t, kind, replyFrame(c.kind, c.bytes), api.Reply{}, api.ErrWireForm)
			}
		}
		// The check of the reply alone is another one; so is that of the reply with the kind behind it.
		decodesReply(t, c.kind, c.bytes+sum(c.bytes), api.Reply{}, api.ErrWireForm)
		if c.bytes+one(c.kind) != one(c.kind)+c.bytes {
			decodesReply(t, c.kind, c.bytes+sum(c.bytes+one(c.kind)), api.Reply{}, api.ErrWireForm)
		}
		decodesReply(t, c.kind, one(c.kind)+replyFrame(c.kind, c.bytes), api.Reply{}, api.ErrWireForm)
	}
}

func Test12_4OtherLengths(t *testing.T) {
	for _, c := range replies() {
		s := replyFrame(c.kind, c.bytes)
		for n := range len(s) {
			decodesReply(t, c.kind, s[:n], api.Reply{}, api.ErrWireForm)
			if n < len(c.bytes) {
				decodesReply(t, c.kind, replyFrame(c.kind, s[:n]), api.Reply{}, api.ErrWireForm)
			}
		}
		for _, more := range []string{"\x00", "x", "\xff", s, noughts(65536)} {
			decodesReply(t, c.kind, s+more, api.Reply{}, api.ErrWireForm)
			decodesReply(t, c.kind, replyFrame(c.kind, s+more), api.Reply{}, api.ErrWireForm)
			decodesReply(t, c.kind, replyFrame(c.kind, c.bytes+more), api.Reply{}, api.ErrWireForm)
		}
	}
}

func Test12_4OtherChecks(t *testing.T) {
	for _, c := range replies() {
		for _, check := range wrongChecks(one(c.kind)+c.bytes, sum(one(c.kind)+c.bytes)) {
			decodesReply(t, c.kind, c.bytes+check, api.Reply{}, api.ErrWireForm)
		}
	}
	// A check that is wrong comes ahead of a status and of a field that are.
	decodesReply(t, 1, "\x0e"+noughts(4), api.Reply{}, api.ErrWireForm)
	decodesReply(t, 6, "\x00\x09"+noughts(12), api.Reply{}, api.ErrWireForm)
}

func Test12_4EachByte(t *testing.T) {
	seen := map[api.Errno]int{}
	for _, c := range replies() {
		check := sum(one(c.kind) + c.bytes)
		for at := range len(c.bytes) {
			for _, b := range otherBytes(at) {
				s := c.bytes[:at] + one(b) + c.bytes[at+1:]
				want, errno := readReply(c.kind, replyFrame(c.kind, s))
				decodesReply(t, c.kind, replyFrame(c.kind, s), want, errno)
				seen[errno]++
				if s != c.bytes {
					decodesReply(t, c.kind, s+check, api.Reply{}, api.ErrWireForm)
				}
			}
		}
	}
	if seen[api.OK] == 0 || seen[api.ErrWireField] == 0 || seen[api.ErrWireForm]+seen[api.ErrWireKind] > 0 {
		t.Errorf("how often each is answered: %v", seen)
	}
}

func Test12_4StatusesThatMayNotBe(t *testing.T) {
	for kind := range 13 {
		n := sizesOf(replyNames(kind))
		for status := 14; status < 256; status++ {
			decodesReply(t, kind, replyFrame(kind, one(status)+noughts(n)), api.Reply{}, api.ErrWireField)
		}
		for status := range 14 {
			if !isFull(kind, api.Status(status)) {
				decodesReply(t, kind, replyFrame(kind, one(status)+noughts(n)), api.Reply{Status: api.Status(status)}, api.OK)
			}
		}
	}
}

// A reply that is not full has noughts, at each place.
func Test12_4FieldsOfAReplyThatIsNotFull(t *testing.T) {
	for kind := range 13 {
		n := sizesOf(replyNames(kind))
		for status := range 14 {
			if isFull(kind, api.Status(status)) {
				continue
			}
			for at := range n {
				for _, b := range []int{1, 128, 255} {
					decodesReply(t, kind, replyFrame(kind, one(status)+noughts(at)+one(b)+noughts(n-at-1)), api.Reply{}, api.ErrWireField)
				}
			}
			if n > 0 {
				full := must(body(fullReply(kind, 2), replyNames(kind)))
				decodesReply(t, kind, replyFrame(kind, one(status)+full), api.Reply{}, api.ErrWireField)
			}
		}
	}
}

func Test12_4Volumes(t *testing.T) {
	for _, c := range []struct {
		bytes string
		want  []int
		errno api.Errno
	}{
		{"\x00\x00\x00\x00\x00\x00\x00\x00\x00", nil, api.OK},
		{"\x01\x01\x00\x00\x00\x00\x00\x00\x00", []int{1}, api.OK},
		{"\x01\x63\x00\x00\x00\x00\x00\x00\x00", []int{99}, api.OK},
		{"\x08\x01\x02\x03\x04\x05\x06\x07\x08", []int{1, 2, 3, 4, 5, 6, 7, 8}, api.OK},
		{"\x07\x01\x02\x03\x04\x05\x06\x07\x00", []int{1, 2, 3, 4, 5, 6, 7}, api.OK},
		// More than 8.
		{"\x09\x01\x02\x03\x04\x05\x06\x07\x08", nil, api.ErrWireField},
		{"\xff\x01\x02\x03\x04\x05\x06\x07\x08", nil, api.ErrWireField},
		// A number that is none.
		{"\x01\x00\x00\x00\x00\x00\x00\x00\x00", nil, api.ErrWireField},
		{"\x01\x64\x00\x00\x00\x00\x00\x00\x00", nil, api.ErrWireField},
		{"\x01\xff\x00\x00\x00\x00\x00\x00\x00", nil, api.ErrWireField},
		{"\x02\x00\x01\x00\x00\x00\x00\x00\x00", nil, api.ErrWireField},
		{"\x02\x63\x64\x00\x00\x00\x00\x00\x00", nil, api.ErrWireField},
		{"\x08\x01\x02\x03\x04\x05\x06\x07\x64", nil, api.ErrWireField},
		{"\x08\x01\x02\x03\x04\x05\x06\x07\x00", nil, api.ErrWireField},
		{"\x08\x00\x00\x00\x00\x00\x00\x00\x00", nil, api.ErrWireField},
		// One that does not rise.
		{"\x02\x02\x01\x00\x00\x00\x00\x00\x00", nil, api.ErrWireField},
		{"\x02\x02\x02\x00\x00\x00\x00\x00\x00", nil, api.ErrWireField},
		{"\x03\x01\x03\x02\x00\x00\x00\x00\x00", nil, api.ErrWireField},
		{"\x08\x01\x02\x03\x04\x05\x06\x07\x07", nil, api.ErrWireField},
		// A byte behind them.
		{"\x00\x01\x00\x00\x00\x00\x00\x00\x00", nil, api.ErrWireField},
		{"\x00\x00\x00\x00\x00\x00\x00\x00\x01", nil, api.ErrWireField},
		{"\x01\x01\x02\x00\x00\x00\x00\x00\x00", nil, api.ErrWireField},
		{"\x01\x01\x00\x00\x00\x00\x00\x00\x80", nil, api.ErrWireField},
		{"\x07\x01\x02\x03\x04\x05\x06\x07\x08", nil, api.ErrWireField},
	} {
		decodesReply(t, 6, replyFrame(6, "\x00"+c.bytes), api.Reply{Volumes: c.want}, c.errno)
		of := api.Reply{}
		if c.errno == api.OK {
			of = api.Reply{Quota: 7, Charge: 2, Volumes: c.want}
		}
		decodesReply(t, 3, replyFrame(3, "\x00\x00\x07\x00\x02"+c.bytes), of, c.errno)
		if c.errno == api.OK {
			encodesReply(t, 6, api.Reply{Volumes: c.want}, replyFrame(6, "\x00"+c.bytes), api.OK)
		}
	}
}

func Test12_5ReplySize(t *testing.T) {
	for kind, want := range []int{5, 5, 5, 18, 5, 5, 14, 9, 17, 5, 5, 309, 5} {
		if n, e := wire.ReplySize(kind); n != want || e != api.OK {
			t.Errorf("ReplySize(%d) = %d, %d, want %d", kind, n, e, want)
		}
		for _, r := range repliesTo(kind) {
			if s, e := wire.EncodeReply(kind, r); len(s) != want || e != api.OK {
				t.Errorf("a reply %+v to kind %d has %d bytes (%d), want %d", r, kind, len(s), e, want)
			}
		}
	}
	for _, kind := range append(noNumbers(), -1, 13, 14, 255, 256, 264) {
		if n, e := wire.ReplySize(kind); n != 0 || e != api.ErrWireKind {
			t.Errorf("ReplySize(%d) = %d, %d, want error %d", kind, n, e, api.ErrWireKind)
		}
	}
}
