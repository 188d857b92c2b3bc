package client_test

import (
	"fmt"
	"math"
	"strings"
	"testing"

	"strongbox/api"
	"strongbox/client"
)

// both is a client, and the model that it is held against.
type both struct {
	*testing.T
	c *client.Client
	m model
}

// keyOf is a key of this name.
func keyOf(name string) string { return sumOf("key " + name) }

// plainOf is a block of this number.
func plainOf(n int) string {
	s := ""
	for k := range 8 {
		s += sumOf(number(n, 8) + number(k, 1))
	}
	return s
}

// begun is a client of a domain and a master, that waits for nothing.
func begun(t *testing.T, domain, master string) *both {
	t.Helper()
	c, e := client.New(keyOf(domain), keyOf(master))
	if c == nil || e != api.OK {
		t.Fatalf("New = %v, %d", c, e)
	}
	return &both{T: t, c: c, m: model{domain: keyOf(domain), master: keyOf(master)}}
}

// begins begins what a kind of requests (8: Write) does: the answer must be the model's.
func (b *both) begins(kind, volume, block int, plain string) (string, api.Errno) {
	b.Helper()
	waits := b.m.kind
	got, e := person{c: b.c}.begins(kind, volume, block, plain)
	if want, wantE := b.m.begin(kind, volume, block, plain); got != want || e != wantE {
		b.Fatalf("a client that waits on kind %d, kind %d at %d, %d, of %d bytes: %x, %d, want %x, %d", waits, kind, volume, block, len(plain), got, e, want, wantE)
	}
	return got, e
}

// takes takes a reply: the answer must be the model's.
func (b *both) takes(reply string) (api.Step, api.Errno) {
	b.Helper()
	waits := b.m.kind
	got, e := b.c.Take(reply)
	if want, wantE := b.m.take(reply); got != want || e != wantE {
		b.Fatalf("a client that waits on kind %d: Take(%x) = %s, %d, want %s, %d", waits, reply, told(got), e, told(want), wantE)
	}
	return got, e
}

func told(s api.Step) string {
	return fmt.Sprintf("{over %v, status %d, plain %.4x.., frame %.4x..}", s.Over, s.Status, s.Plain, s.Frame)
}

// answers takes a reply: the answer must be this.
func (b *both) answers(reply string, want api.Step, wantE api.Errno) {
	b.Helper()
	if got, e := b.takes(reply); got != want || e != wantE {
		b.Fatalf("Take = %s, %d, want %s, %d", told(got), e, told(want), wantE)
	}
}

func (b *both) cancels() {
	b.c.Cancel()
	b.m.kind = 0
}

// The kinds that a client can wait on, and 0.
func waits() []int { return []int{0, 8, 9, 10, 11, 12} }

const (
	somePlaces = "\x00\x05\x09\x14\x64\xc8\xfe\xff"
	someNonce  = 258
)

// waiting is a client that waits on a request of a kind, at a place; what it writes is the block n.
func waiting(t *testing.T, kind, volume, block, n int) *both {
	t.Helper()
	b := begun(t, "domain", "master")
	b.goes(kind, volume, block, n)
	return b
}

// goes brings a client that waits for nothing to wait on a kind.
func (b *both) goes(kind, volume, block, n int) {
	b.Helper()
	switch kind {
	case 0:
	case 11, 12:
		b.begins(kind, volume, block, "")
	default:
		b.begins(8, volume, block, plainOf(n))
	}
	if kind == 9 || kind == 10 {
		b.takes(challenge(someNonce, somePlaces))
	}
	if kind == 10 {
		b.takes(bare(9, api.Need))
	}
	if b.m.kind != kind {
		b.Fatalf("it waits on %d, want %d", b.m.kind, kind)
	}
}

// ends goes on to the end, by all steps that there are: so it is seen what a client waits on, and with which parts.
func (b *both) ends() {
	b.Helper()
	if b.m.kind == 8 {
		b.takes(challenge(7, "\x07\x06\x05\x04\x03\x02\x01\xf0"))
	}
	if b.m.kind == 9 {
		b.takes(bare(9, api.Need))
	}
	switch b.m.kind {
	case 0:
		b.answers(bare(10, api.Done), api.Step{}, api.ErrClientIdle)
		return
	case 11:
		plain := plainOf(77)
		chunk, key := sealed(b.m.domain, plain)
		b.answers(found(wrap(b.m.master, b.m.volume, b.m.block, key), chunk), api.Step{Over: true, Plain: plain}, api.OK)
	default:
		b.answers(bare(b.m.kind, api.Done), api.Step{Over: true}, api.OK)
	}
	b.answers(bare(10, api.Done), api.Step{}, api.ErrClientIdle)
}

// edges are numbers at the edges of volumes and blocks, and at both ends.
func edges() []int {
	return []int{math.MinInt, math.MinInt + 1, -1 << 32, -256, -1, 0, 1, 2, 58, 59, 60, 61, 98, 99, 100, 101, 255, 256, 257, 1<<32 + 1, math.MaxInt - 1, math.MaxInt}
}

// turned is a text with one byte xor a mask.
func turned(s string, at int, mask byte) string {
	b := []byte(s)
	b[at] ^= mask
	return string(b)
}

func upTo(n int) []int {
	l := make([]int, n)
	for i := range l {
		l[i] = i
	}
	return l
}

func zeros(n int) string { return strings.Repeat("\x00", n) }
