package link_test

import (
	"math"
	"math/rand"
	"testing"

	"strongbox/api"
)

// atWindow is an end of the side 1 that has taken these numbers, with frames laid together by hand.
func atWindow(t *testing.T, numbers ...uint64) tried {
	t.Helper()
	_, b := meet(t, ours)
	for _, number := range numbers {
		b.takes(ours.frame(0, number, "x"), "x")
	}
	return b
}

func TestK4NumberNoughtBehindAnother(t *testing.T) {
	for number := uint64(1); number < 100; number++ {
		b := atWindow(t, number)
		if number < 32 {
			b.takes(ours.frame(0, 0, "nought"), "nought")
		}
		b.refuses(ours.frame(0, 0, "nought"), api.ErrLinkOld)
	}
	atWindow(t, 31).takes(ours.frame(0, 0, "nought"), "nought")
	atWindow(t, 32).refuses(ours.frame(0, 0, "nought"), api.ErrLinkOld)
	atWindow(t, 0).refuses(ours.frame(0, 0, "nought"), api.ErrLinkOld)
	atWindow(t, 0, 31).refuses(ours.frame(0, 0, "nought"), api.ErrLinkOld)
	atWindow(t, 0, 32).refuses(ours.frame(0, 0, "nought"), api.ErrLinkOld)
}

// Each number is the first one that comes: none is late when none was taken.
func TestK4AnyNumberMayBeTheFirst(t *testing.T) {
	for _, number := range []uint64{0, 1, 31, 32, 33, 63, 64, 1 << 31, 1<<32 - 1, 1 << 32, 1<<62 - 1, 1 << 62, math.MaxInt64 - 1, math.MaxInt64} {
		b := atWindow(t, number)
		b.refuses(ours.frame(0, number, "x"), api.ErrLinkOld)
	}
}

// At the window's far end, taken before and not, at small numbers and at the greatest.
func TestK4AtTheEndsOfTheWindow(t *testing.T) {
	for _, greatest := range []uint64{32, 33, 63, 64, 65, 100, 1<<32 - 1, 1 << 32, 1<<32 + 31, 1 << 62, math.MaxInt64 - 1, math.MaxInt64} {
		for below := uint64(0); below <= 40 && below <= greatest; below++ {
			b := atWindow(t, greatest)
			f := ours.frame(0, greatest-below, "late")
			if below == 0 || below >= 32 {
				b.refuses(f, api.ErrLinkOld)
			} else {
				b.takes(f, "late")
				b.refuses(f, api.ErrLinkOld)
			}
			if below > 0 {
				b = atWindow(t, greatest-below, greatest)
				b.refuses(f, api.ErrLinkOld)
			}
		}
	}
}

// A jump keeps just those that are not out of the window; all numbers round it are tried behind it.
func TestK4Jumps(t *testing.T) {
	jumps := []uint64{1, 2, 30, 31, 32, 33, 34, 62, 63, 64, 65, 95, 96, 97, 127, 128, 129, 255, 256, 1000, 1<<16 - 1, 1 << 16, 1<<31 - 1, 1 << 31, 1<<32 - 1, 1 << 32, 1<<32 + 1, 1<<32 + 31, 1<<32 + 32, 1 << 37, 1 << 40, 1 << 62, 1<<62 + 1<<32}
	for _, jump := range jumps {
		for _, pattern := range []uint64{0, 0xffffffff, 0x55555555, 0x80000001, 0x7fffffff, 1 << 31} {
			b := atWindow(t)
			for i := range uint64(32) {
				if pattern>>i&1 == 1 {
					b.takes(ours.frame(0, 100-i, "x"), "x")
				}
			}
			b.take(ours.frame(0, 100, "the greatest"))
			b.takes(ours.frame(0, 100+jump, "the jump"), "the jump")
			for number := uint64(60); number < 140; number++ {
				b.take(ours.frame(0, number, "round what was"))
			}
			for number := 100 + jump - 40; number != 100+jump+3; number++ {
				b.take(ours.frame(0, number, "round the jump"))
			}
		}
	}
}

func TestK4UpToTheGreatestNumber(t *testing.T) {
	b := atWindow(t, 5, 1<<62, math.MaxInt64-31)
	b.takes(ours.frame(0, math.MaxInt64, "last"), "last")
	for below := range uint64(40) {
		b.take(ours.frame(0, math.MaxInt64-below, "x"))
	}
	b.refuses(ours.frame(0, 1<<63, "one more"), api.ErrLinkFrame)
	b.refuses(ours.frame(0, 1<<63+100, "more"), api.ErrLinkFrame)
	b.refuses(ours.frame(0, math.MaxInt64, "last"), api.ErrLinkOld)
	if _, taken := b.end.Counts(); taken != 2+32 {
		t.Errorf("%d were taken, want 34", taken)
	}
}

// Numbers in a row, back and forth, each asked for again at once.
func TestK4InARow(t *testing.T) {
	a, b := meet(t, ours)
	for number := range 200 {
		f := a.sends(text(number, 1))
		b.takes(f, text(number, 1))
		b.refuses(f, api.ErrLinkOld)
		if number >= 40 {
			for back := range uint64(40) {
				b.refuses(ours.frame(0, uint64(number)-back, "x"), api.ErrLinkOld)
			}
		}
	}
}

// Drawn numbers, near one another and far, held against all numbers that were taken.
func TestK4DrawnNumbers(t *testing.T) {
	r := rand.New(rand.NewSource(21))
	for range 40 {
		_, b := meet(t, ours)
		at := uint64(r.Intn(50))
		for range 300 {
			switch r.Intn(20) {
			case 0:
				at += uint64(r.Intn(100))
			case 1:
				at += uint64(r.Intn(3)) << r.Intn(58)
			default:
				at += uint64(r.Intn(3))
			}
			at %= 1 << 63
			b.take(ours.frame(0, at-min(at, uint64(r.Intn(45))), "x"))
		}
	}
}
