package link_test

import (
	"fmt"
	"math/rand"
	"slices"
	"testing"

	"strongbox/api"
)

// sentOf is n messages of an end, none like another, and their frames.
func sentOf(x tried, n int, r *rand.Rand) ([]string, []string) {
	var messages, frames []string
	for k := range n {
		m := fmt.Sprintf("%d of the side %d ", k, x.model.side) + text(r.Intn(60), k)
		messages, frames = append(messages, m), append(frames, x.sends(m))
	}
	return messages, frames
}

// plainWindow is the window by its words: all numbers that were taken, and the greatest of them.
type plainWindow struct {
	taken    map[int]bool
	greatest int
}

// lets tells whether a number is taken now.
func (w *plainWindow) lets(number int) bool {
	if w.taken[number] || len(w.taken) > 0 && w.greatest-number >= 32 {
		return false
	}
	w.taken[number] = true
	w.greatest = max(w.greatest, number)
	return true
}

// comes hands frames over by their numbers, and holds each answer against the plain window.
func comes(t *testing.T, to tried, messages, frames []string, order []int) map[int]bool {
	t.Helper()
	w := plainWindow{taken: map[int]bool{}}
	for _, number := range order {
		s, errno := to.take(frames[number])
		if w.lets(number) {
			if s != messages[number] || errno != api.OK {
				t.Fatalf("the number %d = %.20q, %d, want %.20q", number, s, errno, messages[number])
			}
		} else if s != "" || errno != api.ErrLinkOld {
			t.Fatalf("the number %d = %.20q, %d, want ErrLinkOld", number, s, errno)
		}
	}
	return w.taken
}

// late is the numbers below n in a drawn order: each put off by at most so many places.
func late(r *rand.Rand, n, most int) []int {
	due := make([][]int, n+most+1)
	for number := range n {
		at := number + r.Intn(most+1)
		due[at] = append(due[at], number)
	}
	var order []int
	for _, l := range due {
		r.Shuffle(len(l), func(i, j int) { l[i], l[j] = l[j], l[i] })
		order = append(order, l...)
	}
	return order
}

// isInTime tells whether none comes behind one that is greater by 32 or more.
func isInTime(order []int) bool {
	greatest := 0
	for _, number := range order {
		if greatest-number >= 32 {
			return false
		}
		greatest = max(greatest, number)
	}
	return true
}

func TestK6FramesInDrawnOrders(t *testing.T) {
	r := rand.New(rand.NewSource(1))
	for _, most := range []int{0, 1, 5, 16, 31, 32, 33, 40, 64, 100, 300} {
		for range 4 {
			a, b := meet(t, ours)
			messages, frames := sentOf(a, 300, r)
			order := late(r, 300, most)
			// Some come again at once, some much later.
			for k := range order {
				if r.Intn(4) == 0 {
					order = slices.Insert(order, k+1+r.Intn(min(60, len(order)-k)), order[k])
				}
			}
			comes(t, b, messages, frames, order)
		}
	}
}

func TestK6ShuffledWholly(t *testing.T) {
	r := rand.New(rand.NewSource(2))
	for range 10 {
		a, b := meet(t, ours)
		messages, frames := sentOf(b, 200, r)
		order := append(r.Perm(200), r.Perm(200)...)
		comes(t, a, messages, frames, order)
	}
}

// All frames come once each, and none comes too late: all of them are taken.
func TestK6WhatComesNotTooLateIsTaken(t *testing.T) {
	r := rand.New(rand.NewSource(3))
	check := func(order []int) {
		t.Helper()
		if !isInTime(order) {
			t.Fatal("the test's own order is too late")
		}
		a, b := meet(t, ours)
		messages, frames := sentOf(a, len(order), r)
		if taken := comes(t, b, messages, frames, order); len(taken) != len(order) {
			t.Fatalf("of %d frames %d were taken", len(order), len(taken))
		}
	}
	for most := range 32 {
		check(late(r, 250, most))
	}
	// Each run of 32 from its end to its beginning: the latest that may be.
	var backwards []int
	for start := 0; start < 320; start += 32 {
		for k := range 32 {
			backwards = append(backwards, start+31-k)
		}
	}
	check(backwards)
	// One is held back by 31 while the others go on.
	var held []int
	for number := 1; number <= 31; number++ {
		held = append(held, number)
	}
	check(append(held, 0, 32, 33))
}

// One place later, and the last one is lost: the bound is the least that may be said.
func TestK6OneThatComesTooLate(t *testing.T) {
	a, b := meet(t, ours)
	messages, frames := sentOf(a, 33, rand.New(rand.NewSource(4)))
	order := []int{32}
	for number := range 32 {
		order = append(order, number)
	}
	if taken := comes(t, b, messages, frames, order); len(taken) != 32 || taken[0] {
		t.Errorf("%d were taken, the first one: %v", len(taken), taken[0])
	}
}

// stranger is who comes between: it has seen all frames, and hands over whatever it likes.
type stranger struct {
	r    *rand.Rand
	seen []string
}

// draws is something that the stranger hands over: a frame that it has seen, as it is or not, or another text.
func (s *stranger) draws() string {
	r := s.r
	if len(s.seen) == 0 {
		return ""
	}
	one, two := s.seen[r.Intn(len(s.seen))], s.seen[r.Intn(len(s.seen))]
	switch r.Intn(9) {
	case 0:
		return turned(one, r.Intn(len(one)), r.Intn(8))
	case 1:
		return one[:r.Intn(len(one))]
	case 2:
		return one + two
	case 3: // the beginning of one, the end of another
		cut := r.Intn(min(len(one), len(two)))
		return one[:cut] + two[cut:]
	case 4: // another number
		return one[:2] + byEight(uint64(r.Intn(50))) + one[min(10, len(one)):]
	case 5:
		b := make([]byte, r.Intn(70))
		r.Read(b)
		return "LM" + string(b)
	default:
		return one
	}
}

// Whatever is handed over: what an end takes is what the other one sent, each message once at most.
func TestK6WhateverComesBetween(t *testing.T) {
	r := rand.New(rand.NewSource(5))
	for range 30 {
		ends := [2]tried{}
		ends[0], ends[1] = meet(t, ours)
		x, y := meet(t, talk{key, text(16, 7), nonces[1]})
		s := &stranger{r: r}
		var sent, taken [2]map[string]bool
		for side := range 2 {
			sent[side], taken[side] = map[string]bool{}, map[string]bool{}
			s.seen = append(s.seen, ends[side].end.Hello())
		}
		for step := range 400 {
			side := r.Intn(2)
			switch r.Intn(5) {
			case 0, 1:
				m := fmt.Sprintf("%d of the side %d", step, side)
				sent[side][m] = true
				s.seen = append(s.seen, ends[side].sends(m))
			case 2:
				s.seen = append(s.seen, x.sends("of another pair"), y.sends("of another pair"))
			default:
				m, errno := ends[side].take(s.draws())
				if errno != api.OK {
					continue
				}
				if !sent[1-side][m] || taken[side][m] {
					t.Fatalf("%q was taken; sent: %v, taken before: %v", m, sent[1-side][m], taken[side][m])
				}
				taken[side][m] = true
			}
		}
		if len(taken[0]) == 0 || len(taken[1]) == 0 {
			t.Error("nothing was taken: the test says nothing")
		}
	}
}

// All calls in drawn orders, from the beginning to the end, held against the model.
func TestK7AllCallsInDrawnOrders(t *testing.T) {
	r := rand.New(rand.NewSource(6))
	for range 150 {
		ends := []tried{try(t, key, 0, nonces[0]), try(t, key, 1, nonces[1]), try(t, key, r.Intn(2), text(16, r.Intn(3))), try(t, text(32, 1), r.Intn(2), nonces[0])}
		s := &stranger{r: r}
		for _, x := range ends {
			s.seen = append(s.seen, x.end.Hello())
		}
		for range 120 {
			x := ends[r.Intn(len(ends))]
			switch n := r.Intn(40); {
			case n < 4:
				x.greet(s.seen[r.Intn(len(ends))])
			case n < 6:
				x.greet(s.draws())
			case n < 16:
				if f, errno := x.send(text(r.Intn(40), n)); errno == api.OK {
					s.seen = append(s.seen, f)
				}
			case n == 16:
				x.send(text(4090+r.Intn(12), n))
			case n == 17 && r.Intn(4) == 0:
				x.close()
			default:
				x.take(s.draws())
			}
		}
	}
}
