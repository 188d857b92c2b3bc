package wire_test

import (
	"math"
	"slices"
	"strings"
	"testing"

	"strongbox/api"
	"strongbox/wire"
)

var (
	digest  = letters(32, 'd')
	wrapped = letters(48, 'w')
	data    = letters(256, 'x')
)

// requests are some with their bytes ahead of the check, written out.
func requests() []struct {
	r     api.Request
	bytes string
} {
	return []struct {
		r     api.Request
		bytes string
	}{
		{api.Request{Kind: api.AskAddTenant, Tenant: 3, Quota: 258}, "\x01\x03\x01\x02"},
		{api.Request{Kind: api.AskAddTenant, Tenant: 1}, "\x01\x01\x00\x00"},
		{api.Request{Kind: api.AskAddTenant, Tenant: 8, Quota: 65535}, "\x01\x08\xff\xff"},
		{api.Request{Kind: api.AskRemoveTenant, Tenant: 1}, "\x02\x01"},
		{api.Request{Kind: api.AskTenant, Tenant: 8}, "\x03\x08"},
		{api.Request{Kind: api.AskAddVolume, Volume: 1}, "\x04\x01"},
		{api.Request{Kind: api.AskRemoveVolume, Volume: 99}, "\x05\x63"},
		{api.Request{Kind: api.AskVolumes}, "\x06"},
		{api.Request{Kind: api.AskStat}, "\x07"},
		{api.Request{Kind: api.AskOffer, Volume: 5, Block: 59, Digest: digest, Wrapped: wrapped}, "\x08\x05\x3b" + digest + wrapped},
		{api.Request{Kind: api.AskProve, Nonce: 1<<24 + 2<<16 + 3<<8 + 4, Sample: "12345678"}, "\x09\x01\x02\x03\x0412345678"},
		{api.Request{Kind: api.AskProve, Nonce: 4294967295, Sample: noughts(8)}, "\x09\xff\xff\xff\xff" + noughts(8)},
		{api.Request{Kind: api.AskUpload, Volume: 99, Block: 255, Wrapped: wrapped, Data: data}, "\x0a\x63\xff" + wrapped + data},
		{api.Request{Kind: api.AskRead, Volume: 5}, "\x0b\x05\x00"},
		{api.Request{Kind: api.AskTrim, Volume: 5, Block: 7}, "\x0c\x05\x07"},
	}
}

func Test12_1RequestsOfEachKind(t *testing.T) {
	for _, c := range requests() {
		encodesRequest(t, c.r, requestFrame(c.bytes), api.OK)
	}
}

func Test12_1Examples(t *testing.T) {
	stat, e := wire.EncodeRequest(api.Request{Kind: api.AskStat})
	if e != api.OK || len(stat) != 5 || stat[0] != 7 {
		t.Errorf("Stat: %x, %d", stat, e)
	}
	add, e := wire.EncodeRequest(api.Request{Kind: api.AskAddTenant, Tenant: 3, Quota: 258})
	if e != api.OK || len(add) != 8 || add[:4] != "\x01\x03\x01\x02" {
		t.Errorf("AddTenant(3, 258): %x, %d", add, e)
	}
	encodesRequest(t, api.Request{Kind: 13}, "", api.ErrWireKind)
	encodesRequest(t, api.Request{Kind: api.AskAddVolume, Volume: 0}, "", api.ErrWireField)
}

func Test12_1Kinds(t *testing.T) {
	for _, kind := range append(noNumbers(), -1, 0, 13, 14, 255, 256, 257, 1<<32+7) {
		for _, r := range []api.Request{{}, {Tenant: 1}, {Tenant: -1, Data: "x"}, {Volume: 100, Block: 256}, rightRequest(10, 1)} {
			r.Kind = kind
			encodesRequest(t, r, "", api.ErrWireKind)
		}
	}
	for kind := 1; kind <= 12; kind++ {
		r := rightRequest(kind, 0)
		want, _ := wantRequest(r)
		encodesRequest(t, r, want, api.OK)
	}
}

// Each value that a field may be, and each that it may not, whatever else is in the request.
func Test12_1EachFieldOfAKind(t *testing.T) {
	for kind := 1; kind <= 12; kind++ {
		for _, name := range requestNames(kind) {
			for k, value := range rightOnes(name) {
				r := with(rightRequest(kind, k), name, value)
				encodesRequest(t, r, requestFrame(one(kind)+must(body(r, requestNames(kind)))), api.OK)
			}
			for k, value := range wrongOnes(name) {
				encodesRequest(t, with(rightRequest(kind, k), name, value), "", api.ErrWireField)
				encodesRequest(t, with(api.Request{Kind: kind}, name, value), "", api.ErrWireField)
			}
		}
	}
}

// must is a body that may be.
func must(s string, ok bool) string {
	if !ok {
		panic("no body")
	}
	return s
}

func Test12_1NumbersAtTheirEdges(t *testing.T) {
	for _, c := range []struct {
		r            api.Request
		name         string
		right, wrong []int
	}{
		{api.Request{Kind: api.AskTenant}, "Tenant", []int{1, 8}, []int{-1, 0, 9, 257, math.MinInt, math.MaxInt}},
		{api.Request{Kind: api.AskRemoveTenant}, "Tenant", []int{1, 8}, []int{-1, 0, 9, 257, math.MinInt, math.MaxInt}},
		{api.Request{Kind: api.AskAddTenant, Tenant: 1}, "Quota", []int{0, 65535}, []int{-1, 65536, math.MinInt, math.MaxInt}},
		{api.Request{Kind: api.AskAddVolume}, "Volume", []int{1, 99}, []int{-1, 0, 100, 257, math.MinInt, math.MaxInt}},
		{api.Request{Kind: api.AskRemoveVolume}, "Volume", []int{1, 99}, []int{-1, 0, 100, 257, math.MinInt, math.MaxInt}},
		{api.Request{Kind: api.AskRead, Volume: 1}, "Block", []int{0, 59, 60, 255}, []int{-1, 256, math.MinInt, math.MaxInt}},
		{api.Request{Kind: api.AskTrim, Volume: 1}, "Block", []int{0, 59, 60, 255}, []int{-1, 256, math.MinInt, math.MaxInt}},
		{api.Request{Kind: api.AskProve, Sample: "12345678"}, "Nonce", []int{0, 4294967295}, []int{-1, 4294967296, math.MinInt, math.MaxInt}},
	} {
		for _, n := range c.right {
			if s, e := wire.EncodeRequest(with(c.r, c.name, n)); s == "" || e != api.OK {
				t.Errorf("kind %d, %s %d: %x, %d", c.r.Kind, c.name, n, s, e)
			}
		}
		for _, n := range c.wrong {
			encodesRequest(t, with(c.r, c.name, n), "", api.ErrWireField)
		}
	}
}

func Test12_1FieldsOfOtherKinds(t *testing.T) {
	for kind := 1; kind <= 12; kind++ {
		for _, name := range namesOf(api.Request{}) {
			if slices.Contains(requestNames(kind), name) {
				continue
			}
			for k, value := range append(rightOnes(name), wrongOnes(name)...) {
				r := with(rightRequest(kind, k), name, value)
				if isEmpty(value) {
					want, _ := wantRequest(r)
					encodesRequest(t, r, want, api.OK)
					continue
				}
				encodesRequest(t, r, "", api.ErrWireField)
			}
		}
	}
}

func Test12_2RequestsOfEachKind(t *testing.T) {
	for _, c := range requests() {
		decodesRequest(t, requestFrame(c.bytes), c.r, api.OK)
	}
}

func Test12_2NoKind(t *testing.T) {
	decodesRequest(t, "", api.Request{}, api.ErrWireKind)
	for b := range 256 {
		if 1 <= b && b <= 12 {
			continue
		}
		for _, c := range requests() {
			s := one(b) + c.bytes[1:]
			decodesRequest(t, requestFrame(s), api.Request{}, api.ErrWireKind)
			decodesRequest(t, s, api.Request{}, api.ErrWireKind)
		}
		decodesRequest(t, one(b), api.Request{}, api.ErrWireKind)
	}
}

// Frames of other lengths are refused, with the check that they had and with the check of what they are.
func Test12_2OtherLengths(t *testing.T) {
	for _, c := range requests() {
		s := requestFrame(c.bytes)
		for n := 1; n < len(s); n++ {
			decodesRequest(t, s[:n], api.Request{}, api.ErrWireForm)
			if n < len(c.bytes) {
				decodesRequest(t, requestFrame(s[:n]), api.Request{}, api.ErrWireForm)
			}
		}
		for _, more := range []string{"\x00", "x", "\xff", s, noughts(65536)} {
			decodesRequest(t, s+more, api.Request{}, api.ErrWireForm)
			decodesRequest(t, requestFrame(s+more), api.Request{}, api.ErrWireForm)
			decodesRequest(t, requestFrame(c.bytes+more), api.Request{}, api.ErrWireForm)
		}
	}
}

// wrongChecks are checks that bytes do not have.
func wrongChecks(s, check string) []string {
	l := []string{noughts(4), "\xff\xff\xff\xff", sum(""), sum(s + "\x00"), sum("\x00" + s), one(int(check[3])) + one(int(check[2])) + one(int(check[1])) + one(int(check[0]))}
	for k := range 4 {
		for _, turn := range []byte{1, 16, 128, 255} {
			l = append(l, check[:k]+one(int(check[k]^turn))+check[k+1:])
		}
	}
	return slices.DeleteFunc(l, func(other string) bool { return other == check })
}

func Test12_2OtherChecks(t *testing.T) {
	for _, c := range requests() {
		for _, check := range wrongChecks(c.bytes, sum(c.bytes)) {
			decodesRequest(t, c.bytes+check, api.Request{}, api.ErrWireForm)
		}
	}
	// A check that is wrong comes ahead of a field that is.
	decodesRequest(t, "\x04\x00"+noughts(4), api.Request{}, api.ErrWireForm)
	decodesRequest(t, "\x04\x00", api.Request{}, api.ErrWireForm)
}

// The frame of one kind read as that of another: it is refused, also where both have as many bytes.
func Test12_2OtherKinds(t *testing.T) {
	for _, c := range requests() {
		s := requestFrame(c.bytes)
		for kind := 1; kind <= 12; kind++ {
			if kind != c.r.Kind {
				decodesRequest(t, one(kind)+s[1:], api.Request{}, api.ErrWireForm)
			}
		}
	}
}

// One other byte at each place: with the check as it was the frame is refused; with its own one it is told by what the bytes say.
func Test12_2EachByte(t *testing.T) {
	seen := map[api.Errno]int{}
	for _, c := range requests() {
		check := sum(c.bytes)
		for at := range len(c.bytes) {
			for _, b := range otherBytes(at) {
				s := c.bytes[:at] + one(b) + c.bytes[at+1:]
				want, errno := readRequest(requestFrame(s))
				decodesRequest(t, requestFrame(s), want, errno)
				seen[errno]++
				if s == c.bytes {
					continue
				}
				if _, e := wire.DecodeRequest(s + check); e != api.ErrWireForm && e != api.ErrWireKind || (e == api.ErrWireKind) != (s[0] < 1 || s[0] > 12) {
					t.Errorf("%x with another byte at %d: %d", c.bytes, at, e)
				}
			}
		}
	}
	for _, e := range []api.Errno{api.OK, api.ErrWireKind, api.ErrWireForm, api.ErrWireField} {
		if seen[e] == 0 {
			t.Errorf("no frame is answered %d", e)
		}
	}
}

func Test12_2FieldsThatMayNotBe(t *testing.T) {
	for _, s := range []string{
		"\x01\x00\x00\x00", "\x01\x09\x00\x00", "\x01\xff\xff\xff",
		"\x02\x00", "\x02\x09", "\x03\x00", "\x03\x09", "\x03\xff",
		"\x04\x00", "\x04\x64", "\x05\x00", "\x05\x64", "\x05\xff",
		"\x08\x00\x00" + digest + wrapped, "\x08\x64\x00" + digest + wrapped,
		"\x0a\x00\x00" + wrapped + data, "\x0a\x64\xff" + wrapped + data,
		"\x0b\x00\x00", "\x0b\x64\x00", "\x0c\x00\xff", "\x0c\x64\x00",
	} {
		decodesRequest(t, requestFrame(s), api.Request{}, api.ErrWireField)
	}
}

func TestR1LongFramesEnd(t *testing.T) {
	long := strings.Repeat("\x07", 1<<20)
	decodesRequest(t, long, api.Request{}, api.ErrWireForm)
	decodesRequest(t, requestFrame(long), api.Request{}, api.ErrWireForm)
	for kind := range 13 {
		decodesReply(t, kind, long, api.Reply{}, api.ErrWireForm)
		decodesReply(t, kind, replyFrame(kind, noughts(1<<16)), api.Reply{}, api.ErrWireForm)
	}
	encodesRequest(t, api.Request{Kind: api.AskUpload, Volume: 1, Wrapped: wrapped, Data: long}, "", api.ErrWireField)
	encodesReply(t, api.AskRead, api.Reply{Wrapped: wrapped, Data: long}, "", api.ErrWireField)
	encodesReply(t, api.AskVolumes, api.Reply{Volumes: make([]int, 1<<20)}, "", api.ErrWireField)
	encodesReply(t, api.AskOffer, api.Reply{Status: api.Challenge, Places: make([]int, 1<<20)}, "", api.ErrWireField)
}
