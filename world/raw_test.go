package world_test

import (
	"fmt"
	"strings"
	"testing"

	"strongbox/api"
)

// raws plays lines, each beside what must come of it.
type raws struct{ lines, want []string }

func (x *raws) add(line, told string) {
	x.lines, x.want = append(x.lines, line), append(x.want, told)
}

// asks adds a raw line of a request, and the reply.
func (x *raws) asks(tenant int, r api.Request, reply api.Reply) {
	x.add(rawLine(tenant, r), rawReply(r.Kind, reply))
}

func (x *raws) plays(t *testing.T) {
	t.Helper()
	tells(t, x.lines, x.want)
	agrees(t, x.lines)
}

// furnished is a store with a tenant 1 that has a volume 5.
func furnished() *raws {
	x := &raws{}
	x.add("disk 128", "sectors 128 data 85")
	x.add("admin add 1 9", "done")
	x.add("1 vol 5", "done")
	return x
}

// Requests of each kind, as bytes.
func TestW3RawFramesOfEachKind(t *testing.T) {
	x := furnished()
	for kind := 1; kind <= 3; kind++ {
		x.asks(1, api.Request{Kind: kind, Tenant: 1}, bare(api.NotAllowed))
	}
	x.asks(1, api.Request{Kind: 4, Volume: 7}, bare(api.Done))
	x.asks(1, api.Request{Kind: 4, Volume: 7}, bare(api.Exists))
	x.asks(1, api.Request{Kind: 6}, api.Reply{Volumes: []int{5, 7}})
	x.asks(1, api.Request{Kind: 7}, api.Reply{Quota: 9, Charge: 2})
	x.asks(1, api.Request{Kind: 5, Volume: 7}, bare(api.Done))
	x.asks(1, api.Request{Kind: 5, Volume: 7}, bare(api.NoVolume))
	x.asks(1, api.Request{Kind: 11, Volume: 5, Block: 3}, bare(api.Unmapped))
	x.asks(1, api.Request{Kind: 11, Volume: 5, Block: 60}, bare(api.OutOfRange))
	data, key := sealed(domainOf("d"), blockOf("word"))
	hidden := wrapped(masterOf(1), 5, 3, key)
	x.asks(1, api.Request{Kind: 10, Volume: 5, Block: 3, Wrapped: hidden, Data: data}, bare(api.Done))
	x.asks(1, api.Request{Kind: 11, Volume: 5, Block: 3}, api.Reply{Wrapped: hidden, Data: data})
	x.add("1 read 5 3", "done word")
	x.asks(1, api.Request{Kind: 12, Volume: 5, Block: 3}, bare(api.Done))
	x.asks(1, api.Request{Kind: 12, Volume: 5, Block: 255}, bare(api.OutOfRange))
	x.asks(2, api.Request{Kind: 6}, bare(api.NoTenant))
	x.asks(2, api.Request{Kind: 9, Nonce: 1, Sample: "12345678"}, bare(api.NoTenant))
	x.asks(1, api.Request{Kind: 9, Nonce: 1, Sample: "12345678"}, bare(api.Unmapped))
	x.add("1 stat", "done quota 9 charge 1")
	x.plays(t)
}

// The statuses of Offers and of Proves, and the nonces, which begin anew with each server.
func TestW3RawOffersAndProves(t *testing.T) {
	x := furnished() // frames 1 and 2
	offer := offerOf(1, 5, 0, "d", blockOf("word"))
	data, _ := sealed(domainOf("d"), blockOf("word"))
	challenge := func(nonce, frame int) api.Reply {
		return api.Reply{Status: api.Challenge, Nonce: nonce, Places: placesOf(drawOf(frame), offer.Digest)}
	}
	prove := func(nonce, frame int) api.Request {
		return api.Request{Kind: 9, Nonce: nonce, Sample: sampleOf(data, placesOf(drawOf(frame), offer.Digest))}
	}
	x.asks(1, offer, challenge(1, 3))
	x.asks(1, prove(1, 3), bare(api.Need)) // 4
	x.asks(1, prove(1, 3), bare(api.Unmapped))
	x.add("1 write 5 9 word", "done uploaded") // 6, 7, 8: the nonce 2
	x.asks(1, offer, challenge(3, 9))
	x.asks(1, offer, challenge(4, 10))
	x.asks(1, prove(3, 10), bare(api.Need)) // the sample of another challenge
	x.asks(1, prove(4, 10), bare(api.Done))
	x.add("1 read 5 0", "done word") // 13
	x.asks(1, offer, challenge(5, 14))
	x.add("power", "up")
	x.asks(1, prove(5, 14), bare(api.Unmapped)) // 15
	x.asks(1, offer, challenge(1, 16))
	// A fifth one pushes out the first; so does one of the client's.
	x.asks(1, offer, challenge(2, 17))
	x.asks(1, offer, challenge(3, 18))
	x.asks(1, offer, challenge(4, 19))
	x.add("1 write 5 1 word", "done proved") // 20, 21: the nonce 5
	x.asks(1, prove(1, 16), bare(api.Unmapped))
	x.asks(1, prove(2, 17), bare(api.Done))
	x.add("totals", "chunks 1 pages 3 mapped 3 charged 6 promised 9 capacity 83")
	x.plays(t)
}

// What is no request: its draw counts, and the reply is one to no kind.
func TestW3RawFramesThatAreSpoilt(t *testing.T) {
	offer := offerOf(1, 5, 0, "d", blockOf("word"))
	bad := rawReply(0, bare(api.BadFrame))
	good := frameOf(api.Request{Kind: 7})
	spoilt := []string{"\x00", "\x07", "\xff", good + "\x00", good[:4], good[1:], frameOf(api.Request{Kind: 4}), frameOf(api.Request{Kind: 11, Volume: 100}), frameOf(api.Request{Kind: 3, Tenant: 9}), checked("", "\x0d"), checked("", ""), of("\x00", 400), of("\xff", 400)}
	for bit := range 8 * len(good) {
		b := []byte(good)
		b[bit/8] ^= 1 << (bit % 8)
		spoilt = append(spoilt, string(b))
	}
	for n := 0; n < len(spoilt); n += 18 {
		x := furnished()
		frames := 2
		for _, s := range spoilt[n:min(n+18, len(spoilt))] {
			if len(scriptOf(x.lines))+2*len(s) > 3000 {
				continue
			}
			x.add("1 raw "+hexOf(s), bad)
			frames++
		}
		x.asks(1, offer, api.Reply{Status: api.Challenge, Nonce: 1, Places: placesOf(drawOf(frames+1), offer.Digest)})
		x.add("acts", "acts 76")
		x.plays(t)
	}
}

// Which lines send how many frames: seen by the places of an Offer behind them.
func TestW3DrawsCountFrames(t *testing.T) {
	offer := offerOf(1, 5, 50, "d", blockOf("word"))
	for _, x := range []struct {
		lines  string
		frames int
		nonce  int
	}{
		{"", 0, 1},
		{"audit", 0, 1}, {"totals", 0, 1}, {"acts", 0, 1}, {"power", 0, 1}, {"domain 1 d", 0, 1}, {"arm 99 0", 0, 1},
		{"admin add 2 9", 1, 1}, {"admin add 1 9", 1, 1}, {"admin look 1", 1, 1}, {"admin remove 2", 1, 1}, {"admin look 7", 1, 1},
		{"1 vol 7", 1, 1}, {"1 unvol 7", 1, 1}, {"1 vols", 1, 1}, {"1 stat", 1, 1}, {"8 stat", 1, 1},
		{"1 read 5 0", 1, 1}, {"1 trim 5 0", 1, 1}, {"1 raw 00", 1, 1}, {"8 raw 00", 1, 1},
		{"1 write 4 0 a", 1, 1}, {"8 write 4 0 a", 1, 1}, {"1 write 5 0 a", 3, 2}, {"1 write 5 0 a;1 write 5 0 a", 5, 3}, {"1 write 5 0 a;1 write 5 1 a;1 write 5 2 b", 8, 4},
		// Those of dead servers count; nonces begin anew.
		{"arm 1 0;admin add 2 9", 1, 1}, {"arm 38 0;1 vol 7", 1, 1}, {"1 write 5 0 a;arm 5 0;1 write 5 0 a", 5, 1}, {"1 write 5 0 a;arm 25 0;1 write 5 0 b", 6, 1}, {"arm 20 0;arm 3 0;arm 19 1;1 write 5 0 a", 3, 1},
		{"1 write 5 0 a;power;1 write 5 0 b", 6, 2},
	} {
		w := furnished()
		if x.lines != "" {
			w.lines = append(w.lines, strings.Split(x.lines, ";")...)
		}
		w.want = modelled(w.lines)
		w.asks(1, offer, api.Reply{Status: api.Challenge, Nonce: x.nonce, Places: placesOf(drawOf(2+x.frames+1), offer.Digest)})
		w.plays(t)
	}
}

// A raw line in which the disk dies tells nothing but that.
func TestW3RawFramesInWhichTheDiskDies(t *testing.T) {
	for n := 1; n <= 40; n++ {
		x := furnished()
		x.add(fmt.Sprintf("arm %d 0", n), "ok")
		line := rawUpload(1, 5, 2, "d", blockOf("word"))
		told, read := "died 1", "unmapped"
		if n > 38 {
			told = rawReply(10, bare(api.Done))
		}
		if n > 19 {
			read = "done word"
		}
		x.add(line, told)
		x.add("1 read 5 2", read)
		x.add("audit", "findings 0")
		x.plays(t)
	}
}
