package pool

import (
	"slices"
	"testing"
)

// place is a key of more than one part, as any comparable type may be one.
type place struct {
	name string
	at   [2]int
}

func Test6_3AHandIsOfAnyKeysAndValues(t *testing.T) {
	h := newHand[place, []int](2)
	a, b, c := place{name: "a"}, place{at: [2]int{0, 1}}, place{at: [2]int{1, 0}}
	h.lay(a, []int{1})
	h.lay(b, nil)
	if v, ok := h.find(b); v != nil || !ok {
		t.Fatalf("find = %v, %v, want a value that is nil", v, ok)
	}
	h.lay(a, []int{2})
	h.lay(c, []int{3})
	if v, ok := h.find(b); v != nil || ok {
		t.Fatalf("find of what has gone = %v, %v", v, ok)
	}
	if v, ok := h.find(a); !slices.Equal(v, []int{2}) || !ok {
		t.Fatalf("find = %v, %v, want what was laid last", v, ok)
	}
	if !slices.Equal(h.order, []place{c, a}) || len(h.values) != 2 || h.count() != 2 {
		t.Fatalf("at hand are %v, %v", h.order, h.values)
	}
	h.empty()
	if _, ok := h.find(a); ok || h.count() != 0 || len(h.values) != 0 {
		t.Fatalf("at hand are %v, %v", h.order, h.values)
	}
	h.lay(b, []int{4})
	if v, ok := h.find(b); !slices.Equal(v, []int{4}) || !ok {
		t.Fatalf("find = %v, %v", v, ok)
	}
}

func Test6_3AHandKeepsNoMoreThanItHasRoomFor(t *testing.T) {
	for room := range 6 {
		h := newHand[string, int](room)
		for n := range 40 {
			h.lay(string(rune('a'+n*n%11)), n)
			if h.count() > room || len(h.values) != len(h.order) || len(h.order) != h.count() {
				t.Fatalf("with room for %d: %v, %v", room, h.order, h.values)
			}
		}
	}
}

func Test6_7WhatWasAbortedIsNotKept(t *testing.T) {
	p := Pool{open: true, written: map[int]string{20: "a", 21: "b"}}
	p.Abort()
	if p.open || len(p.written) != 0 {
		t.Fatalf("kept is %v", p.written)
	}
}
