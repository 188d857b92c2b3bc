package world_test

import (
	"crypto/hmac"
	"crypto/sha256"
	"encoding/binary"
	"encoding/hex"
	"hash/crc32"
	"slices"
	"strconv"
	"strings"

	"strongbox/api"
)

// What follows are the chapters' words on digests, chunks and frames, by the library: nothing here asks the program.

func sumOf(s string) string {
	sum := sha256.Sum256([]byte(s))
	return string(sum[:])
}

func macOf(key, s string) string {
	h := hmac.New(sha256.New, []byte(key))
	h.Write([]byte(s))
	return string(h.Sum(nil))
}

func noughts(n int) string { return strings.Repeat("\x00", n) }

// number is one by so many bytes.
func number(v, size int) string {
	return string(binary.BigEndian.AppendUint64(nil, uint64(v))[8-size:])
}

// valueOf is the number that bytes are.
func valueOf(s string) int {
	n := 0
	for _, b := range []byte(s) {
		n = n<<8 | int(b)
	}
	return n
}

// laid is a text of at most 256 bytes with the front of a key's stream laid on.
func laid(key, s string) string {
	b := []byte(s)
	stream := ""
	for i := range 8 {
		stream += sumOf(key + number(i, 8))
	}
	for i := range b {
		b[i] ^= stream[i]
	}
	return string(b)
}

// blockOf is a text and noughts behind it.
func blockOf(s string) string { return s + noughts(256-len(s)) }

// domainOf and masterOf are the keys of a world's clients.
func domainOf(word string) string { return sumOf("domain " + word) }
func masterOf(tenant int) string  { return sumOf("master " + strconv.Itoa(tenant)) }

// sealed is a block's chunk and key.
func sealed(domain, plain string) (string, string) {
	key := macOf(domain, plain)
	return laid(key, plain), key
}

// wrapped is a key for a place.
func wrapped(master string, volume, block int, key string) string {
	w := macOf(master, "wrap"+number(volume, 4)+number(block, 4))
	hidden := laid(w, key)
	return hidden + macOf(w, "tag"+hidden)[:16]
}

// opened is the block that a chunk is, by a key that was wrapped for its place; false, if it is none.
func opened(domain, master string, volume, block int, b block) (string, bool) {
	w := macOf(master, "wrap"+number(volume, 4)+number(block, 4))
	key := laid(w, b.wrapped[:32])
	plain := laid(key, b.data)
	return plain, macOf(w, "tag"+b.wrapped[:32])[:16] == b.wrapped[32:] && macOf(domain, plain) == key
}

// drawOf is the draw of the k-th frame.
func drawOf(k int) string { return sumOf("draw " + strconv.Itoa(k))[:16] }

// placesOf are the places of a draw and a digest.
func placesOf(draw, digest string) []int {
	var l []int
	last := ""
	for i := 1; len(l) < 8; i++ {
		last = macOf(draw, last+"places"+digest+number(i, 1))
		for _, b := range []byte(last) {
			if len(l) < 8 && !slices.Contains(l, int(b)) {
				l = append(l, int(b))
			}
		}
	}
	slices.Sort(l)
	return l
}

// sampleOf are a chunk's bytes at places.
func sampleOf(data string, places []int) string {
	var l []byte
	for _, i := range places {
		l = append(l, data[i])
	}
	return string(l)
}

// checked is bytes with their check behind them, which is of those ahead too.
func checked(ahead, s string) string {
	return s + string(binary.LittleEndian.AppendUint32(nil, crc32.ChecksumIEEE([]byte(ahead+s))))
}

// frameOf is a request as bytes, whether its numbers may be or not.
func frameOf(r api.Request) string {
	place := number(r.Volume, 1) + number(r.Block, 1)
	fields := map[int]string{
		1: number(r.Tenant, 1) + number(r.Quota, 2), 2: number(r.Tenant, 1), 3: number(r.Tenant, 1),
		4: number(r.Volume, 1), 5: number(r.Volume, 1), 8: place + r.Digest + r.Wrapped,
		9: number(r.Nonce, 4) + r.Sample, 10: place + r.Wrapped + r.Data, 11: place, 12: place,
	}
	return checked("", number(r.Kind, 1)+fields[r.Kind])
}

// sizes are how many bytes the frames of each kind have, but for their checks.
var sizes = [...]int{1: 4, 2: 2, 3: 2, 4: 2, 5: 2, 6: 1, 7: 1, 8: 83, 9: 13, 10: 307, 11: 3, 12: 3}

// requestOf is the request that bytes are; false, if they are none.
func requestOf(frame string) (api.Request, bool) {
	if len(frame) < 5 || frame[0] < 1 || frame[0] > 12 || len(frame) != sizes[frame[0]]+4 || checked("", frame[:len(frame)-4]) != frame {
		return api.Request{}, false
	}
	r, f := api.Request{Kind: int(frame[0])}, frame[1:len(frame)-4]
	switch r.Kind {
	case 1:
		r.Tenant, r.Quota = int(f[0]), valueOf(f[1:])
	case 2, 3:
		r.Tenant = int(f[0])
	case 4, 5:
		r.Volume = int(f[0])
	case 8:
		r.Volume, r.Block, r.Digest, r.Wrapped = int(f[0]), int(f[1]), f[2:34], f[34:]
	case 9:
		r.Nonce, r.Sample = valueOf(f[:4]), f[4:]
	case 10:
		r.Volume, r.Block, r.Wrapped, r.Data = int(f[0]), int(f[1]), f[2:50], f[50:]
	case 11, 12:
		r.Volume, r.Block = int(f[0]), int(f[1])
	}
	if r.Kind <= 3 {
		return r, 1 <= r.Tenant && r.Tenant <= 8
	}
	return r, slices.Contains([]int{6, 7, 9}, r.Kind) || 1 <= r.Volume && r.Volume <= 99
}

// replyOf is a reply to a kind as bytes.
func replyOf(kind int, r api.Reply) string {
	list := number(len(r.Volumes), 1)
	for _, n := range r.Volumes {
		list += number(n, 1)
	}
	list += noughts(9 - len(list))
	var places []byte
	for _, i := range r.Places {
		places = append(places, byte(i))
	}
	promise := number(r.Quota, 2) + number(r.Charge, 2)
	fields := map[int]string{3: promise + list, 6: list, 7: promise, 8: number(r.Nonce, 4) + string(places), 11: r.Wrapped + r.Data}[kind]
	if kind == 8 && r.Status != api.Challenge {
		fields = noughts(12)
	}
	if kind == 11 && r.Status != api.Done {
		fields = noughts(304)
	}
	return checked(number(kind, 1), number(int(r.Status), 1)+fields)
}

// hexOf is bytes as a line tells them.
func hexOf(s string) string { return hex.EncodeToString([]byte(s)) }

// rawLine is a line by which a tenant sends a request.
func rawLine(tenant int, r api.Request) string {
	return strconv.Itoa(tenant) + " raw " + hexOf(frameOf(r))
}

// rawReply is what is told of a reply to a kind.
func rawReply(kind int, r api.Reply) string { return "reply " + hexOf(replyOf(kind, r)) }

// rawUpload is a line by which a tenant uploads a block as its client of that domain would.
func rawUpload(tenant, volume, at int, domain, plain string) string {
	data, key := sealed(domainOf(domain), plain)
	return rawLine(tenant, api.Request{Kind: 10, Volume: volume, Block: at, Wrapped: wrapped(masterOf(tenant), volume, at, key), Data: data})
}

// offerOf is the Offer by which a tenant's client of a domain begins to write a block.
func offerOf(tenant, volume, at int, domain, plain string) api.Request {
	data, key := sealed(domainOf(domain), plain)
	return api.Request{Kind: 8, Volume: volume, Block: at, Digest: sumOf(data), Wrapped: wrapped(masterOf(tenant), volume, at, key)}
}
