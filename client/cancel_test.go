package client_test

import (
	"testing"

	"strongbox/api"
)

// At every point: behind a Cancel it waits for nothing, whatever comes.
func Test15_4CancelAtEveryPoint(t *testing.T) {
	for _, kind := range waits() {
		for times := range 3 {
			b := waiting(t, kind, 5, 6, 7)
			for range times + 1 {
				b.cancels()
			}
			for k := range 13 {
				for status := range api.Status(14) {
					b.answers(bare(k, status), api.Step{}, api.ErrClientIdle)
				}
			}
			for _, r := range append(rightReplies(kind), "", challenge(1, somePlaces)) {
				b.answers(r, api.Step{}, api.ErrClientIdle)
			}
		}
	}
}

// Behind a Cancel anything can be begun, and is done as if nothing had been ahead of it.
func Test15_4BehindACancel(t *testing.T) {
	for _, was := range waits() {
		for _, next := range waits() {
			b := waiting(t, was, 5, 6, 7)
			b.cancels()
			b.goes(next, 8, 9, 10)
			b.ends()
		}
	}
}

// Nothing comes of what it waited for: its reply is none to another kind, and to one of the same kind the step is the new one's.
func Test15_4LateReplies(t *testing.T) {
	for _, was := range []int{8, 9, 10, 11, 12} {
		for _, next := range []int{8, 9, 10, 11, 12} {
			for _, r := range rightReplies(was) {
				b := waiting(t, was, 5, 6, 7)
				b.cancels()
				b.goes(next, 8, 9, 10)
				if _, e := b.takes(r); was != next && e != api.ErrClientReply {
					t.Errorf("kind %d behind a Cancel of kind %d: %d", next, was, e)
				}
				b.ends()
			}
		}
	}
}

// A Cancel behind a reply that was refused, and behind one that ended it.
func Test15_4CancelBehindTake(t *testing.T) {
	for _, kind := range []int{8, 9, 10, 11, 12} {
		b := waiting(t, kind, 5, 6, 7)
		b.answers("", api.Step{}, api.ErrClientReply)
		b.cancels()
		b.answers("", api.Step{}, api.ErrClientIdle)
		b.goes(kind, 1, 2, 3)
		b.answers(bare(kind, api.NoVolume), api.Step{Over: true, Status: api.NoVolume}, api.OK)
		b.cancels()
		b.goes(kind, 1, 2, 3)
		b.ends()
	}
}
