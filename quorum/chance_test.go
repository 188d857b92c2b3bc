package quorum_test

import (
	"math/rand"
	"slices"
	"testing"

	"strongbox/api"
	"strongbox/quorum"
)

// spoilt is a text some of whose bytes are others, by chance, or that is longer or shorter; most times its check is made right.
func spoilt(r *rand.Rand, s string) string {
	b := []byte(s[:len(s)-4])
	for range r.Intn(4) {
		switch at := r.Intn(len(b)); r.Intn(8) {
		case 0:
			b = slices.Delete(b, at, at+1)
		case 1:
			b = slices.Insert(b, at, byte(r.Intn(3)))
		case 2:
			b[at] = byte(r.Intn(256))
		case 3:
			b[at] ^= 1 << r.Intn(8)
		case 4:
			b = append(b[:at:at], b[r.Intn(at+1):]...) // a piece is doubled
		default:
			b[at] += byte(r.Intn(5) - 2)
		}
	}
	if r.Intn(10) == 0 {
		return string(b) + s[len(s)-4:]
	}
	return checked(string(b))
}

// drawnEntries is entries of which some are held, drawnFrame a frame of any kind.
func drawnEntries(r *rand.Rand, most int) ([]entry, []kept) {
	var entries []entry
	var held []kept
	for place := r.Intn(60); place < 64; place += 1 + r.Intn(9) {
		value := longest[:r.Intn(4)]
		entries = append(entries, entry{place, r.Intn(most + 1), value})
		if r.Intn(2) == 0 {
			held = append(held, kept{place, value})
		}
	}
	return entries, held
}

func drawnFrame(r *rand.Rand) string {
	from := r.Intn(5)
	to := (from + 1 + r.Intn(4)) % 5
	entries, _ := drawnEntries(r, 9)
	k, place := 5*r.Intn(3), r.Intn(64)
	return [...]string{
		prepare(from, to, k+from), promise(from, to, k+to, entries...), promise(from, to, k+to), accept(from, to, k+from, place, "v"),
		accepted(from, to, k+to, place), holds(from, to, place, "value"), refuse(from, to, k), ask(from, to, place),
	}[r.Intn(8)]
}

// Frames that were spoilt by chance: those that are frames still are taken as ones, all others are refused, by nodes that do anything.
func TestQ1FramesByChance(t *testing.T) {
	r := rand.New(rand.NewSource(1))
	are := 0
	for range 40 {
		x := []func(*testing.T, int, int) *tried{tryNode, asks, leads}[r.Intn(3)](t, r.Intn(3), 3)
		for range 500 {
			s := spoilt(r, drawnFrame(r))
			p, isOne := readParts(s)
			want := api.OK
			if !isOne {
				want = api.ErrQuorumFrame
			} else {
				are++
			}
			if to, errno := quorum.To(s); to != p.to && isOne || to != 0 && !isOne || errno != want {
				t.Fatalf("To of %x = %d, %d, want error %d", s, to, errno, want)
			}
			got, errno := x.is.Take(s)
			if l, wanted := x.model.take(s); !slices.Equal(got, l) || errno != wanted {
				t.Fatalf("Take of %x = %s, %d, want %s, %d", s, shown(got), errno, shown(l), wanted)
			}
		}
		x.stands("frames by chance")
	}
	if are < 5000 || are > 15000 {
		t.Errorf("%d of 20000 are frames, which is too few or too many for a test", are)
	}
}

// isSaved tells whether a text is what a node saves, by the words of Q7.
func isSaved(id, n int, s string) bool {
	if len(s) < 16 {
		return false
	}
	c := &cursor{rest: s[2 : len(s)-4]}
	if c.num(1) != id || c.num(1) != n {
		return false
	}
	promised := c.num(4) - 1
	var entries []entry
	for range c.num(2) {
		entries = append(entries, entry{c.num(2), c.num(4), c.value()})
	}
	var held []kept
	for range c.num(2) {
		held = append(held, kept{c.num(2), c.value()})
	}
	if c.short || c.rest != "" || promised > 65535 || saved(id, n, promised, entries, held) != s {
		return false
	}
	for k, e := range entries {
		if e.place > 63 || k > 0 && e.place <= entries[k-1].place || e.ballot > promised || len(e.value) > 400 {
			return false
		}
	}
	for k, h := range held {
		if h.place > 63 || k > 0 && h.place <= held[k-1].place || len(h.value) > 400 {
			return false
		}
	}
	return true
}

// What was saved, and spoilt by chance.
func TestQ7MemoriesByChance(t *testing.T) {
	r := rand.New(rand.NewSource(2))
	are := 0
	for range 20000 {
		promised := r.Intn(20)
		entries, held := drawnEntries(r, promised)
		s := spoilt(r, saved(1, 3, promised, entries, held))
		q, errno := quorum.Load(1, 3, s)
		if isSaved(1, 3, s) {
			are++
			if q == nil || errno != api.OK || q.Saved() != s {
				t.Fatalf("Load of %x = %v, %d", s, q, errno)
			}
		} else if q != nil || errno != api.ErrQuorumForm {
			t.Fatalf("Load of %x = %v, %d", s, q, errno)
		}
	}
	if are < 5000 || are > 15000 {
		t.Errorf("%d of 20000 are memories, which is too few or too many for a test", are)
	}
}
