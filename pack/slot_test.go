package pack_test

import (
	"math"
	"strings"
	"testing"

	"strongbox/api"
	"strongbox/pack"
)

// notSizes are no sizes of slots.
func notSizes() []int { return append(belows(), 0) }

// bodies are of the lengths from 0 on, no two slots of one alike.
func bodies() []string {
	var l []string
	all := make([]byte, 0, 20)
	for i := range 20 {
		l = append(l, string(all))
		all = append(all, byte(11*i))
	}
	return append(l, strings.Repeat("b", api.PageBody))
}

// slotsOf are a body's slots, and what is behind the last of them.
func slotsOf(body string, size int) ([]string, string) {
	var slots []string
	for len(body) >= size {
		slots, body = append(slots, body[:size]), body[size:]
	}
	return slots, body
}

// noSlots are numbers that no slot has, of so many slots.
func noSlots(n int) []int {
	return append(belows(), n, n+1, 1<<32, 1<<61, 1<<62, math.MaxInt)
}

func Test3_14Slots(t *testing.T) {
	for _, body := range bodies() {
		for size := 1; size < 30; size++ {
			slots, _ := slotsOf(body, size)
			if got := pack.Slots(body, size); got != len(slots) {
				t.Errorf("Slots of %d bytes, size %d, is %d, want %d", len(body), size, got, len(slots))
			}
		}
		for _, size := range append(notSizes(), len(body)+1, 1<<62, math.MaxInt) {
			if got := pack.Slots(body, size); got != 0 {
				t.Errorf("Slots of %d bytes, size %d, is %d, want 0", len(body), size, got)
			}
		}
	}
	if got := pack.Slots("abcdefg", 3); got != 2 {
		t.Errorf("example 6: Slots is %d, want 2", got)
	}
}

func Test3_15Slot(t *testing.T) {
	for _, body := range bodies() {
		for size := 1; size < 30; size++ {
			slots, _ := slotsOf(body, size)
			for k, want := range slots {
				if got, e := pack.Slot(body, size, k); got != want || e != api.OK {
					t.Errorf("Slot(%x, %d, %d) = %x, %d, want %x", body, size, k, got, e, want)
				}
			}
		}
	}
	if got, e := pack.Slot("abcdefg", 3, 1); got != "def" || e != api.OK {
		t.Errorf("example 6: Slot 1 is %q, %d", got, e)
	}
}

func Test3_15SlotRefuses(t *testing.T) {
	for _, body := range bodies() {
		for _, size := range notSizes() {
			for _, k := range append(noSlots(len(body)), 0, 1) {
				if got, e := pack.Slot(body, size, k); got != "" || e != api.ErrArg {
					t.Errorf("Slot(%x, %d, %d) = %x, %d, want error %d", body, size, k, got, e, api.ErrArg)
				}
			}
		}
		for _, size := range []int{1, 2, 3, len(body), len(body) + 1, 1 << 62, math.MaxInt} {
			if size < 1 {
				continue
			}
			for _, k := range noSlots(len(body) / size) {
				if got, e := pack.Slot(body, size, k); got != "" || e != api.ErrPackSlot {
					t.Errorf("Slot(%x, %d, %d) = %x, %d, want error %d", body, size, k, got, e, api.ErrPackSlot)
				}
			}
		}
	}
}

func Test3_15SetSlot(t *testing.T) {
	for _, body := range bodies() {
		for size := 1; size < 30; size++ {
			s := strings.Repeat("s", size)
			slots, behind := slotsOf(body, size)
			for k := range slots {
				want := strings.Join(slots[:k], "") + s + strings.Join(slots[k+1:], "") + behind
				if got, e := pack.SetSlot(body, size, k, s); got != want || e != api.OK {
					t.Errorf("SetSlot(%x, %d, %d, %q) = %x, %d, want %x", body, size, k, s, got, e, want)
				}
			}
		}
	}
	if got, e := pack.SetSlot("abcdefg", 3, 1, "xyz"); got != "abcxyzg" || e != api.OK {
		t.Errorf("example 6: SetSlot is %q, %d", got, e)
	}
}

func Test3_15SetSlotRefuses(t *testing.T) {
	isRefusal := func(body string, size, k int, s string, want api.Errno) {
		t.Helper()
		if got, e := pack.SetSlot(body, size, k, s); got != "" || e != want {
			t.Errorf("SetSlot(%x, %d, %d, %d bytes) = %x, %d, want error %d", body, size, k, len(s), got, e, want)
		}
	}
	for _, body := range bodies() {
		for _, size := range notSizes() {
			for _, k := range append(noSlots(len(body)), 0, 1) {
				isRefusal(body, size, k, "", api.ErrArg)
				isRefusal(body, size, k, "s", api.ErrArg)
			}
		}
		for _, size := range []int{1, 2, 3, len(body) + 1} {
			for _, k := range append(noSlots(len(body)/size), 0, 1) {
				isRefusal(body, size, k, strings.Repeat("s", size-1), api.ErrArg)
				isRefusal(body, size, k, strings.Repeat("s", size+1), api.ErrArg)
				isRefusal(body, size, k, strings.Repeat("s", 2*size), api.ErrArg)
			}
			for _, k := range noSlots(len(body) / size) {
				isRefusal(body, size, k, strings.Repeat("s", size), api.ErrPackSlot)
			}
		}
		isRefusal(body, math.MaxInt, 0, "s", api.ErrArg)
	}
}
