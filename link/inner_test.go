package link

import (
	"math"
	"strings"
	"testing"

	"strongbox/api"
)

// met is two ends that have greeted one another.
func met(t *testing.T) (*End, *End) {
	t.Helper()
	key := strings.Repeat("k", 32)
	a, _ := New(key, 0, strings.Repeat("m", 16))
	b, _ := New(key, 1, strings.Repeat("n", 16))
	if a.Greet(b.Hello()) != api.OK || b.Greet(a.Hello()) != api.OK {
		t.Fatal("they do not meet")
	}
	return a, b
}

// Nobody can send so many, so that they are counted here as if somebody had.
func TestK3SendBehindAsManyAsThereMayBe(t *testing.T) {
	a, b := met(t)
	a.sent = 1<<62 - 2
	for _, message := range []string{"the last but one", "the last one"} {
		f, errno := a.Send(message)
		if errno != api.OK {
			t.Fatalf("Send = %d", errno)
		}
		if s, errno := b.Take(f); s != message || errno != api.OK {
			t.Errorf("Take = %q, %d, want %q", s, errno, message)
		}
	}
	for _, n := range []int{0, 1, 4096, 4097} {
		if f, errno := a.Send(strings.Repeat("x", n)); f != "" || errno != api.ErrLinkState {
			t.Errorf("Send of %d bytes = %.20x, %d, want ErrLinkState", n, f, errno)
		}
	}
	if sent, _ := a.Counts(); sent != 1<<62 || !a.Ready() {
		t.Errorf("Counts = %d, Ready = %v", sent, a.Ready())
	}
	f, _ := b.Send("back")
	if s, errno := a.Take(f); s != "back" || errno != api.OK {
		t.Errorf("Take = %q, %d", s, errno)
	}
}

func TestAClosedEndHoldsNoKeys(t *testing.T) {
	a, _ := met(t)
	a.Close()
	if a.sending.by != (keys{}) || a.taking.by != (keys{}) || a.key != "" || a.nonce != "" {
		t.Error("a closed end has keys")
	}
}

// The window by itself, at all numbers of 63 bits: held against a list of all that came.
func TestTheWindowAgainstAList(t *testing.T) {
	rows := [][]uint64{
		{0, 1, 2, 3}, {3, 2, 1, 0}, {31, 0}, {32, 0, 1}, {0, 31, 32, 33}, {5, 1 << 40, 6, 1<<40 - 31, 1<<40 - 32},
		{math.MaxInt64, 0, math.MaxInt64 - 31, math.MaxInt64 - 32, 1}, {0, math.MaxInt64}, {0, 64, 32, 33, 63}, {0, 1 << 32, 1<<32 - 31, 1<<32 - 32},
	}
	for _, row := range rows {
		var w window
		var came []uint64
		for _, number := range row {
			want := false
			for _, one := range came {
				want = want || one == number || one > number && one-number >= 32
			}
			if got := w.isOld(number); got != want {
				t.Fatalf("behind %d the number %d is old: %v", came, number, got)
			}
			if !want {
				w.mark(number)
				came = append(came, number)
			}
			if !w.isOld(number) {
				t.Fatalf("behind %d the number %d is not old", came, number)
			}
		}
	}
}

func TestAnEmptyWindowHasNothing(t *testing.T) {
	var w window
	for _, number := range []uint64{0, 1, 31, 32, math.MaxInt64} {
		if w.isOld(number) {
			t.Errorf("%d is old", number)
		}
	}
}
