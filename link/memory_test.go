package link_test

import (
	"fmt"
	"strings"
	"sync"
	"testing"
	"unsafe"

	"strongbox/api"
	"strongbox/link"
)

// lent is a text in memory that may be written into once it was handed in: an end that keeps it will say something else then.
type lent []byte

func lend(s string) lent { return lent(s) }

func (l lent) text() string { return unsafe.String(unsafe.SliceData(l), len(l)) }

// stays tells whether the text is as it was, and writes over it.
func (l lent) stays(t *testing.T, what, was string) {
	t.Helper()
	if string(l) != was {
		t.Errorf("%s was written into", what)
	}
	clear(l)
}

// within tells whether a text lies in the memory of another one.
func within(s, whole string) bool {
	at, first := uintptr(unsafe.Pointer(unsafe.StringData(s))), uintptr(unsafe.Pointer(unsafe.StringData(whole)))
	return s != "" && first <= at && at < first+uintptr(len(whole))
}

func TestR2TextsAreNeitherWrittenIntoNorKept(t *testing.T) {
	k, n := lend(key), lend(nonces[0])
	e, errno := link.New(k.text(), 0, n.text())
	if errno != api.OK {
		t.Fatalf("New = %d", errno)
	}
	k.stays(t, "the key", key)
	n.stays(t, "the nonce", nonces[0])
	if got := e.Hello(); got != wantHello(key, 0, nonces[0]) {
		t.Fatalf("it keeps what was handed in: Hello = %x", got)
	}
	hello := wantHello(key, 1, nonces[1])
	h := lend(hello)
	if errno := e.Greet(h.text()); errno != api.OK {
		t.Fatalf("Greet = %d", errno)
	}
	h.stays(t, "the hello", hello)
	for number := range uint64(3) {
		m := lend("message")
		got, errno := e.Send(m.text())
		m.stays(t, "the message", "message")
		if got != ours.frame(0, number, "message") || errno != api.OK {
			t.Fatalf("Send = %x, %d", got, errno)
		}
		frame := ours.frame(1, number, "reply")
		f := lend(frame)
		s, errno := e.Take(f.text())
		f.stays(t, "the frame", frame)
		if s != "reply" || errno != api.OK {
			t.Fatalf("Take = %q, %d", s, errno)
		}
	}
}

func TestR2RefusedTextsAreNotWrittenInto(t *testing.T) {
	a, b := meet(t, ours)
	for _, s := range noFrames(1) {
		l := lend(s)
		b.end.Take(l.text())
		b.end.Greet(l.text())
		a.end.Send(strings.Repeat("x", 4097))
		l.stays(t, "what was refused", s)
	}
	for _, s := range noHellos(0) {
		e := try(t, key, 0, nonces[0])
		l := lend(s)
		e.end.Greet(l.text())
		l.stays(t, "what was refused", s)
	}
}

func TestR2WhatComesOutIsNewMemory(t *testing.T) {
	a, b := meet(t, ours)
	for _, n := range []int{2, 100, 4096} { // of one byte the runtime has texts of its own
		m := text(n, n)
		f, _ := a.end.Send(m)
		s, errno := b.end.Take(f)
		if s != m || errno != api.OK {
			t.Fatalf("Take = %.20q, %d", s, errno)
		}
		if within(f, m) || within(s, f) || within(s, m) {
			t.Errorf("what comes out of %d bytes lies in what was handed in", n)
		}
	}
}

// Many pairs at once, each in a goroutine of its own, with one key, one side's nonce and some frames in common.
func TestK7ManyEndsAtOnce(t *testing.T) {
	common := ours.frame(0, 3, "common")
	var group sync.WaitGroup
	for k := range 16 {
		group.Go(func() {
			c := talk{key, nonces[0], text(16, k)}
			a, b := meets(c)
			for number := range uint64(60) {
				m := fmt.Sprintf("%d of the pair %d", number, k)
				f, _ := a.Send(m)
				if f != c.frame(0, number, m) {
					t.Errorf("the pair %d sends another frame %d", k, number)
				}
				if s, errno := b.Take(common); s != "" || errno != api.ErrLinkFrame {
					t.Errorf("the pair %d takes another one's: %q, %d", k, s, errno)
				}
				if s, errno := b.Take(f); s != m || errno != api.OK {
					t.Errorf("the pair %d takes %q, %d", k, s, errno)
				}
				if s, errno := b.Take(f); s != "" || errno != api.ErrLinkOld {
					t.Errorf("the pair %d takes again %q, %d", k, s, errno)
				}
			}
			if sent, taken := a.Counts(); sent != 60 || taken != 0 {
				t.Errorf("the pair %d: Counts = %d, %d", k, sent, taken)
			}
			if sent, taken := b.Counts(); sent != 0 || taken != 60 {
				t.Errorf("the pair %d: Counts = %d, %d", k, sent, taken)
			}
			a.Close()
			if a.Ready() || !b.Ready() {
				t.Errorf("the pair %d is closed wrongly", k)
			}
		})
	}
	group.Wait()
}

// meets is two ends that have greeted one another, without their models.
func meets(c talk) (*link.End, *link.End) {
	a, _ := link.New(c.key, 0, c.n0)
	b, _ := link.New(c.key, 1, c.n1)
	a.Greet(b.Hello())
	b.Greet(a.Hello())
	return a, b
}
