package client_test

import (
	"crypto/hmac"
	"crypto/sha256"
	"encoding/binary"
	"hash/crc32"
	"strings"

	"strongbox/api"
)

// What follows is a plain model of the chapter's words, which takes digests and checks from the library and lays frames down by itself.

func sumOf(s string) string {
	sum := sha256.Sum256([]byte(s))
	return string(sum[:])
}

func macOf(key, s string) string {
	h := hmac.New(sha256.New, []byte(key))
	h.Write([]byte(s))
	return string(h.Sum(nil))
}

// number is one by so many bytes.
func number(v, size int) string {
	return string(binary.BigEndian.AppendUint64(nil, uint64(v))[8-size:])
}

// laid is a text of at most 256 bytes with the front of a key's stream laid on.
func laid(key, s string) string {
	b := []byte(s)
	for i := range b {
		b[i] ^= sumOf(key + number(i/32, 8))[i%32]
	}
	return string(b)
}

// sealed is a block's chunk and key.
func sealed(domain, plain string) (string, string) {
	key := macOf(domain, plain)
	return laid(key, plain), key
}

// wrap is a wrapped key.
func wrap(master string, volume, block int, key string) string {
	w := macOf(master, "wrap"+number(volume, 4)+number(block, 4))
	hidden := laid(w, key)
	return hidden + macOf(w, "tag"+hidden)[:16]
}

// checked is bytes with their check behind them, which is of those ahead too.
func checked(ahead, s string) string {
	return s + string(binary.LittleEndian.AppendUint32(nil, crc32.ChecksumIEEE([]byte(ahead+s))))
}

// request is a frame with the bytes of its fields.
func request(kind int, fields string) string { return checked("", number(kind, 1)+fields) }

func place(volume, block int) string { return number(volume, 1) + number(block, 1) }

func offer(volume, block int, digest, wrapped string) string {
	return request(8, place(volume, block)+digest+wrapped)
}

func prove(nonce int, sample string) string { return request(9, number(nonce, 4)+sample) }

func upload(volume, block int, wrapped, data string) string {
	return request(10, place(volume, block)+wrapped+data)
}

// fieldsSize is how many bytes the fields of a reply to a kind have.
func fieldsSize(kind int) int { return map[int]int{3: 13, 6: 9, 7: 4, 8: 12, 11: 304}[kind] }

// reply is one to a kind, with the bytes of its fields.
func reply(kind int, status api.Status, fields string) string {
	return checked(number(kind, 1), number(int(status), 1)+fields)
}

// bare is a reply with noughts for fields.
func bare(kind int, status api.Status) string {
	return reply(kind, status, strings.Repeat("\x00", fieldsSize(kind)))
}

// challenge is a reply to an Offer.
func challenge(nonce int, places string) string { return reply(8, 1, number(nonce, 4)+places) }

// found is a reply Done to a Read.
func found(wrapped, data string) string { return reply(11, 0, wrapped+data) }

// parsed is the status and the fields' bytes of a reply; false, if it is none to that kind.
func parsed(kind int, s string) (api.Status, string, bool) {
	n := fieldsSize(kind)
	if len(s) != 1+n+4 || s[0] > 13 || s != checked(number(kind, 1), s[:1+n]) {
		return 0, "", false
	}
	status, fields := api.Status(s[0]), s[1:1+n]
	isFull := status == map[bool]api.Status{true: 1, false: 0}[kind == 8]
	return status, fields, isFull || fields == strings.Repeat("\x00", n)
}

// model is a client: what it waits for is the kind of the frame that it said last, and what it was asked.
type model struct {
	domain, master string
	kind           int // 0: it waits for nothing
	volume, block  int
	plain          string
}

func (m *model) begin(kind, volume, block int, plain string) (string, api.Errno) {
	switch {
	case m.kind != 0:
		return "", 150
	case volume < 1 || volume > 99 || block < 0 || block > 59:
		return "", 1
	case kind == 8 && len(plain) != 256:
		return "", 23
	}
	m.kind, m.volume, m.block, m.plain = kind, volume, block, plain
	if kind != 8 {
		return request(kind, place(volume, block)), 0
	}
	chunk, wrapped := m.parts()
	return offer(volume, block, sumOf(chunk), wrapped), 0
}

// parts are the chunk and the wrapped key of what is being written.
func (m *model) parts() (string, string) {
	chunk, key := sealed(m.domain, m.plain)
	return chunk, wrap(m.master, m.volume, m.block, key)
}

func (m *model) take(s string) (api.Step, api.Errno) {
	if m.kind == 0 {
		return api.Step{}, 151
	}
	status, fields, isReply := parsed(m.kind, s)
	if !isReply || status == 1 && m.kind != 8 || status == 2 && m.kind != 9 || status == 0 && m.kind == 8 {
		return api.Step{}, 152
	}
	chunk, wrapped := m.parts()
	if m.kind == 8 && status == 1 {
		sample := ""
		for i := range 8 {
			sample += string([]byte{chunk[fields[4+i]]})
		}
		m.kind = 9
		return api.Step{Status: 1, Frame: request(9, fields[:4]+sample)}, 0
	}
	if m.kind == 9 && (status == 2 || status == 13) {
		m.kind = 10
		return api.Step{Status: status, Frame: upload(m.volume, m.block, wrapped, chunk)}, 0
	}
	isRead := m.kind == 11 && status == 0
	m.kind = 0
	if !isRead {
		return api.Step{Over: true, Status: status}, 0
	}
	key := laid(macOf(m.master, "wrap"+number(m.volume, 4)+number(m.block, 4)), fields[:32])
	plain := laid(key, fields[48:])
	if fields[:48] != wrap(m.master, m.volume, m.block, key) || key != macOf(m.domain, plain) {
		return api.Step{}, 153
	}
	return api.Step{Over: true, Plain: plain}, 0
}
