package link_test

import (
	"crypto/hkdf"
	"crypto/hmac"
	"crypto/sha256"
	"encoding/binary"
	"strings"
	"testing"

	"strongbox/api"
	"strongbox/link"
)

// What the chapter's words make of hellos, frames and ends, reckoned by other means than the package's: digests and derived keys by Go's library, texts laid together by hand, and all numbers that were taken kept for good.

func mac(key, s string) string {
	m := hmac.New(sha256.New, []byte(key))
	m.Write([]byte(s))
	return string(m.Sum(nil))
}

// tagged is a text and its tag.
func tagged(key, s string) string { return s + mac(key, s)[:16] }

// byEight is a number by eight bytes.
func byEight(n uint64) string { return string(binary.BigEndian.AppendUint64(nil, n)) }

// laidOn is a text with a key's stream laid on.
func laidOn(key, s string) string {
	b := []byte(s)
	for i := range b {
		d := sha256.Sum256([]byte(key + byEight(uint64(i/32))))
		b[i] ^= d[i%32]
	}
	return string(b)
}

// wantHello is the hello of a side, which may be one that there is not.
func wantHello(key string, side byte, nonce string) string {
	return tagged(key, "LH"+string([]byte{side})+nonce)
}

// talk is what two ends that have greeted one another have in common: a key, and the nonces of the sides 0 and 1.
type talk struct{ key, n0, n1 string }

// keys are the hiding and the sealing key of a side.
func (c talk) keys(side byte) (string, string) {
	d, err := hkdf.Expand(sha256.New, []byte(c.key), "link"+c.n0+c.n1+string([]byte{side}), 64)
	if err != nil {
		panic(err)
	}
	return string(d[:32]), string(d[32:])
}

// sealed is any text with the tag that a side's frames have.
func (c talk) sealed(side byte, s string) string {
	_, sealing := c.keys(side)
	return tagged(sealing, s)
}

// frame is the frame that a side makes of a message.
func (c talk) frame(side byte, number uint64, message string) string {
	hiding, _ := c.keys(side)
	return c.sealed(side, "LM"+byEight(number)+laidOn(mac(hiding, byEight(number)), message))
}

// model is an end by the chapter's words.
type model struct {
	key, nonce    string
	side          byte
	talk          talk
	ready, closed bool
	sent          int
	greatest      uint64
	taken         map[uint64]bool
}

func newModel(key string, side int, nonce string) *model {
	return &model{key: key, nonce: nonce, side: byte(side), taken: map[uint64]bool{}}
}

func (m *model) hello() string {
	if m.closed {
		return ""
	}
	return wantHello(m.key, m.side, m.nonce)
}

func (m *model) greet(frame string) api.Errno {
	if m.ready || m.closed {
		return api.ErrLinkState
	}
	if len(frame) != 35 || frame != wantHello(m.key, 1-m.side, frame[3:19]) {
		return api.ErrLinkFrame
	}
	m.talk = talk{m.key, m.nonce, frame[3:19]}
	if m.side == 1 {
		m.talk = talk{m.key, frame[3:19], m.nonce}
	}
	m.ready = true
	return api.OK
}

func (m *model) send(message string) (string, api.Errno) {
	if !m.ready {
		return "", api.ErrLinkState
	}
	if len(message) > 4096 {
		return "", api.ErrLinkLong
	}
	m.sent++
	return m.talk.frame(m.side, uint64(m.sent-1), message), api.OK
}

func (m *model) take(frame string) (string, api.Errno) {
	if !m.ready {
		return "", api.ErrLinkState
	}
	if len(frame) < 26 || len(frame) > 4122 || frame[:2] != "LM" || frame[2] >= 128 {
		return "", api.ErrLinkFrame
	}
	cut := len(frame) - 16
	if frame != m.talk.sealed(1-m.side, frame[:cut]) {
		return "", api.ErrLinkFrame
	}
	number := binary.BigEndian.Uint64([]byte(frame[2:10]))
	if m.taken[number] || number+32 <= m.greatest {
		return "", api.ErrLinkOld
	}
	m.taken[number], m.greatest = true, max(m.greatest, number)
	hiding, _ := m.talk.keys(1 - m.side)
	return laidOn(mac(hiding, frame[2:10]), frame[10:cut]), api.OK
}

func (m *model) close() { m.ready, m.closed = false, true }

// tried is an end that is held against its model at each call, and behind it by all that it tells of itself.
type tried struct {
	t     *testing.T
	end   *link.End
	model *model
}

func try(t *testing.T, key string, side int, nonce string) tried {
	t.Helper()
	end, errno := link.New(key, side, nonce)
	if end == nil || errno != api.OK {
		t.Fatalf("New(%.4q, %d, %.4q) = %v, %d", key, side, nonce, end, errno)
	}
	x := tried{t, end, newModel(key, side, nonce)}
	x.stands("New")
	return x
}

// stands holds what an end tells of itself against its model.
func (x tried) stands(behind string) {
	x.t.Helper()
	if got, want := x.end.Hello(), x.model.hello(); got != want {
		x.t.Fatalf("behind %s: Hello = %x, want %x", behind, got, want)
	}
	if got := x.end.Ready(); got != x.model.ready {
		x.t.Fatalf("behind %s: Ready = %v", behind, got)
	}
	if sent, taken := x.end.Counts(); sent != x.model.sent || taken != len(x.model.taken) {
		x.t.Fatalf("behind %s: Counts = %d, %d, want %d, %d", behind, sent, taken, x.model.sent, len(x.model.taken))
	}
}

func (x tried) greet(frame string) api.Errno {
	x.t.Helper()
	got, want := x.end.Greet(frame), x.model.greet(frame)
	if got != want {
		x.t.Fatalf("Greet(%x) = %d, want %d", frame, got, want)
	}
	x.stands("Greet")
	return got
}

func (x tried) send(message string) (string, api.Errno) {
	x.t.Helper()
	got, errno := x.end.Send(message)
	want, wantErrno := x.model.send(message)
	if got != want || errno != wantErrno {
		x.t.Fatalf("Send of %d bytes = %.64x, %d, want %.64x, %d", len(message), got, errno, want, wantErrno)
	}
	x.stands("Send")
	return got, errno
}

func (x tried) take(frame string) (string, api.Errno) {
	x.t.Helper()
	got, errno := x.end.Take(frame)
	want, wantErrno := x.model.take(frame)
	if got != want || errno != wantErrno {
		x.t.Fatalf("Take(%.64x) = %.20q, %d, want %.20q, %d", frame, got, errno, want, wantErrno)
	}
	x.stands("Take")
	return got, errno
}

func (x tried) close() {
	x.t.Helper()
	x.end.Close()
	x.model.close()
	x.stands("Close")
}

// greets, sends, takes and refuses are calls whose outcome the test says itself.

func (x tried) greets(frame string, want api.Errno) {
	x.t.Helper()
	if got := x.greet(frame); got != want {
		x.t.Fatalf("Greet(%x) = %d, want %d", frame, got, want)
	}
}

func (x tried) sends(message string) string {
	x.t.Helper()
	frame, errno := x.send(message)
	if errno != api.OK {
		x.t.Fatalf("Send of %d bytes = %d", len(message), errno)
	}
	return frame
}

func (x tried) takes(frame, want string) {
	x.t.Helper()
	if got, errno := x.take(frame); got != want || errno != api.OK {
		x.t.Fatalf("Take(%.64x) = %.20q, %d, want %.20q", frame, got, errno, want)
	}
}

func (x tried) refuses(frame string, want api.Errno) {
	x.t.Helper()
	if got, errno := x.take(frame); got != "" || errno != want {
		x.t.Fatalf("Take(%.64x) = %.20q, %d, want error %d", frame, got, errno, want)
	}
}

// The keys and nonces of most tests.
var (
	key    = strings.Repeat("k", 32)
	nonces = [2]string{strings.Repeat("m", 16), strings.Repeat("n", 16)}
	ours   = talk{key, nonces[0], nonces[1]}
)

// meet is two ends that have greeted one another.
func meet(t *testing.T, c talk) (tried, tried) {
	t.Helper()
	a, b := try(t, c.key, 0, c.n0), try(t, c.key, 1, c.n1)
	a.greets(b.end.Hello(), api.OK)
	b.greets(a.end.Hello(), api.OK)
	return a, b
}

// turned is a text with one bit turned.
func turned(s string, at, bit int) string {
	b := []byte(s)
	b[at] ^= 1 << bit
	return string(b)
}

// text is n bytes that no other k has.
func text(n, k int) string {
	b := make([]byte, n)
	for i := range b {
		b[i] = byte(i*i/7 + 31*i + i/64 + 101*k)
	}
	return string(b)
}
