package proof_test

import (
	"slices"
	"sync"
	"testing"

	"strongbox/api"
	"strongbox/proof"
)

// overwrite writes another number into a list and into its spare room.
func overwrite(l []int) {
	l = l[:cap(l)]
	for k := range l {
		l[k] = -9
	}
}

func TestR2ListsThatAreHandedInAreNotWrittenInto(t *testing.T) {
	for _, was := range [][]int{{}, {3}, {3, 3, 255}, {9, 8, 7, 6, 5, 4, 3, 2, 1}, {256}, {0, -1, 0}} {
		for _, cipher := range []string{count(), count()[1:], ""} {
			l := append(slices.Clone(was), 77, 77, 77, 77)
			proof.SampleOf(cipher, l[:len(was)])
			if !slices.Equal(l, append(slices.Clone(was), 77, 77, 77, 77)) {
				t.Errorf("of %v: %v", was, l)
			}
		}
	}
}

func TestR2ListsThatAreHandedInAreNotKept(t *testing.T) {
	l := []int{3, 3, 255}
	s, _ := proof.SampleOf(count(), l)
	overwrite(l)
	if s != "\x03\x03\xff" {
		t.Errorf("the sample is now %q", s)
	}
}

// What comes out is the caller's: nobody sees what they write there.
func TestR2ListsThatComeOutAreNewMemory(t *testing.T) {
	draw, digest := drawOf(1), digestOf(1)
	want := wantPlaces(draw, digest)
	one, _ := proof.PlacesOf(draw, digest)
	other, _ := proof.PlacesOf(draw, digest)
	overwrite(one)
	if !slices.Equal(other, want) {
		t.Errorf("PlacesOf = %v, want %v", other, want)
	}
	placesAre(t, draw, digest, want, api.OK)
}

func TestR2WhatIsWrittenIntoAnswersIsNotPending(t *testing.T) {
	p := newBoth(t)
	var lists [][]int
	for k := range 4 {
		o, draw := offerOf(k), drawOf(k)
		nonce, l, errno := p.b.Offer(3, o, draw)
		n, want, _ := p.m.offer(3, o, draw)
		if nonce != n || !slices.Equal(l, want) || errno != api.OK {
			t.Fatalf("Offer = %d, %v, %d", nonce, l, errno)
		}
		lists = append(lists, l)
		overwrite(l)
		pending, _ := p.b.Pending(3)
		overwrite(pending)
		_ = append(pending[:0], 88, 88, 88, 88)
	}
	pendingIs(t, p.b, 3, 1, 2, 3, 4)
	for k, l := range lists {
		if !slices.Equal(l, []int{-9, -9, -9, -9, -9, -9, -9, -9}) {
			t.Errorf("the list of %d is %v", k, l)
		}
	}
	_, first, _ := p.b.Take(3, 2)
	p.m.take(3, 2)
	overwrite(first)
	for _, nonce := range []int{1, 3, 4} {
		if errno := p.take(3, nonce); errno != api.OK {
			t.Errorf("Take(3, %d) = %d", nonce, errno)
		}
	}
}

// Two challenges of the same draw and offer have lists of their own.
func TestR2ListsOfTheSameChallengeAreTwo(t *testing.T) {
	b := proof.New()
	o, draw := offerOf(5), drawOf(5)
	want := wantPlaces(draw, o.Digest)
	_, offered, _ := b.Offer(1, o, draw)
	b.Offer(1, o, draw)
	_, taken, _ := b.Take(1, 1)
	overwrite(taken)
	if !slices.Equal(offered, want) {
		t.Errorf("Offer's list is now %v, want %v", offered, want)
	}
	if _, l, _ := b.Take(1, 2); !slices.Equal(l, want) {
		t.Errorf("Take = %v, want %v", l, want)
	}
}

// Books of their own do not disturb one another, also at the same time.
func TestR2BooksAtTheSameTime(t *testing.T) {
	var all sync.WaitGroup
	for g := range 8 {
		all.Add(1)
		go func() {
			defer all.Done()
			b, m := proof.New(), newModel()
			for k := range 200 {
				tenant := (g+k)%8 + 1
				n, l, e := b.Offer(tenant, offerOf(k), drawOf(k))
				wantN, wantL, wantE := m.offer(tenant, offerOf(k), drawOf(k))
				if n != wantN || !slices.Equal(l, wantL) || e != wantE {
					t.Errorf("Offer(%d) = %d, %v, %d, want %d, %v, %d", tenant, n, l, e, wantN, wantL, wantE)
				}
				if k%3 == 0 {
					o, _, e := b.Take(tenant, n)
					wantO, _, wantE := m.take(tenant, n)
					if o != wantO || e != wantE {
						t.Errorf("Take(%d, %d) = %+v, %d, want %+v, %d", tenant, n, o, e, wantO, wantE)
					}
				}
			}
		}()
	}
	all.Wait()
}
