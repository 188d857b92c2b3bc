package wire_test

import (
	"slices"
	"sync"
	"testing"

	"strongbox/api"
	"strongbox/wire"
)

// roomy is a list with spare room, in which other numbers stand.
func roomy(l ...int) []int {
	return append(slices.Clone(l), 77, 77, 77, 77)[:len(l)]
}

// isUntouched tells whether a roomy list and its spare room are what they were.
func isUntouched(l []int, was ...int) bool {
	return slices.Equal(l, was) && slices.Equal(l[:len(l)+4], append(slices.Clone(was), 77, 77, 77, 77))
}

func TestR2ListsThatAreHandedInAreNotWrittenInto(t *testing.T) {
	for _, was := range [][]int{{}, {5}, {5, 7, 9}, {1, 2, 3, 4, 5, 6, 7, 8}, {1, 2, 3, 4, 5, 6, 7, 8, 9}, {9, 8, 7}, {0, 300, -1}} {
		for kind := -1; kind <= 13; kind++ {
			for status := api.Status(-1); status <= 14; status++ {
				volumes, places := roomy(was...), roomy(was...)
				wire.EncodeReply(kind, api.Reply{Status: status, Volumes: volumes})
				wire.EncodeReply(kind, api.Reply{Status: status, Places: places})
				wire.EncodeReply(kind, api.Reply{Status: status, Volumes: volumes, Places: places})
				if !isUntouched(volumes, was...) || !isUntouched(places, was...) {
					t.Errorf("to kind %d, status %d, of %v: %v, %v", kind, status, was, volumes, places)
				}
			}
		}
	}
}

func TestR2ListsThatAreHandedInAreNotKept(t *testing.T) {
	for _, kind := range []int{3, 6, 8} {
		r := fullReply(kind, 3)
		r.Volumes, r.Places = slices.Clone(r.Volumes), slices.Clone(r.Places)
		want, _ := wantReply(kind, r)
		s, _ := wire.EncodeReply(kind, r)
		overwrite(r.Volumes)
		overwrite(r.Places)
		if s != want {
			t.Errorf("to kind %d: %x, want %x", kind, s, want)
		}
		encodesReply(t, kind, r, "", api.ErrWireField)
	}
}

// overwrite writes another number into a list and into its spare room.
func overwrite(l []int) {
	for k := range l[:cap(l)] {
		l[:cap(l)][k] = -9
	}
}

// What comes out is the caller's: nobody sees what they write there.
func TestR2ListsThatComeOutAreNewMemory(t *testing.T) {
	for _, c := range replies() {
		s := replyFrame(c.kind, c.bytes)
		first, _ := wire.DecodeReply(c.kind, s)
		second, _ := wire.DecodeReply(c.kind, s)
		overwrite(first.Volumes)
		overwrite(first.Places)
		if !sameReply(second, c.r) {
			t.Errorf("to kind %d: %+v, want %+v", c.kind, second, c.r)
		}
		decodesReply(t, c.kind, s, c.r, api.OK)
		third := append(second.Volumes, 88)
		fourth := append(second.Places, 88)
		decodesReply(t, c.kind, s, c.r, api.OK)
		if third[len(third)-1] != 88 || fourth[len(fourth)-1] != 88 {
			t.Errorf("to kind %d: the lists are not the caller's", c.kind)
		}
	}
}

// An answer hangs on the arguments alone, also where many ask at the same time.
func TestR2CallsDoNotDisturbOneAnother(t *testing.T) {
	var all sync.WaitGroup
	for g := range 8 {
		all.Add(1)
		go func() {
			defer all.Done()
			for k := range 100 {
				kind := (g + k) % 13
				r := fullReply(kind, k)
				want, _ := wantReply(kind, r)
				encodesReply(t, kind, r, want, api.OK)
				decodesReply(t, kind, want, r, api.OK)
				if kind == 0 {
					continue
				}
				ask := rightRequest(kind, k)
				frame, _ := wantRequest(ask)
				encodesRequest(t, ask, frame, api.OK)
				decodesRequest(t, frame, ask, api.OK)
			}
		}()
	}
	all.Wait()
}
