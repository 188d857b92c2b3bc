package link_test

import (
	"math"
	"strings"
	"testing"

	"strongbox/api"
	"strongbox/link"
)

func refusesNew(t *testing.T, key string, side int, nonce string) {
	t.Helper()
	if e, errno := link.New(key, side, nonce); e != nil || errno != api.ErrLinkKey {
		t.Errorf("New of a key of %d bytes, the side %d, a nonce of %d bytes = %v, %d", len(key), side, len(nonce), e, errno)
	}
}

// Each length of the key, side and length of the nonce with each other: all three must be right.
func TestK1NewRefuses(t *testing.T) {
	right := 0
	for _, k := range []int{0, 1, 16, 31, 32, 33, 64, 1000} {
		for _, side := range []int{math.MinInt, math.MinInt32, -256, -2, -1, 0, 1, 2, 3, 255, 256, 257, 1 << 32, 1<<32 + 1, math.MaxInt} {
			for _, n := range []int{0, 1, 15, 16, 17, 32, 1000} {
				if k == 32 && n == 16 && (side == 0 || side == 1) {
					try(t, text(k, 1), side, text(n, 2))
					right++
					continue
				}
				refusesNew(t, text(k, 1), side, text(n, 2))
			}
		}
	}
	if right != 2 {
		t.Errorf("%d ends were made, want 2", right)
	}
}

func TestK1ANewEndIsNotReady(t *testing.T) {
	for side := range 2 {
		for _, k := range []string{key, strings.Repeat("\x00", 32), strings.Repeat("\xff", 32), text(32, 3)} {
			for _, n := range []string{nonces[0], strings.Repeat("\x00", 16), strings.Repeat("\xff", 16), text(16, 4)} {
				e, errno := link.New(k, side, n)
				if errno != api.OK {
					t.Fatalf("New = %d", errno)
				}
				if sent, taken := e.Counts(); e.Ready() || sent != 0 || taken != 0 {
					t.Errorf("a new end: Ready = %v, Counts = %d, %d", e.Ready(), sent, taken)
				}
			}
		}
	}
}

func TestK2HelloByteByByte(t *testing.T) {
	for side := range 2 {
		x := try(t, key, side, nonces[side])
		h := x.end.Hello()
		if len(h) != 35 || h[:2] != "LH" || h[2] != byte(side) || h[3:19] != nonces[side] || h[19:] != mac(key, h[:19])[:16] {
			t.Errorf("Hello of the side %d = %x", side, h)
		}
	}
}

func TestK2HelloHangsOnEachOfItsParts(t *testing.T) {
	seen := map[string]bool{}
	for side := range 2 {
		for at := range 32 {
			for bit := range 8 {
				seen[try(t, turned(key, at, bit), side, nonces[0]).end.Hello()] = true
				seen[try(t, key, side, turned(nonces[0], at%16, bit)).end.Hello()] = true
			}
		}
	}
	if want := 2 * (32 + 16) * 8; len(seen) != want {
		t.Errorf("%d hellos, want %d", len(seen), want)
	}
}

func TestK2HelloIsAlwaysTheSame(t *testing.T) {
	a, b := try(t, key, 0, nonces[0]), try(t, key, 1, nonces[1])
	want := wantHello(key, 0, nonces[0])
	same := func(when string) {
		t.Helper()
		if a.end.Hello() != want || a.end.Hello() != want {
			t.Errorf("%s: Hello is another one", when)
		}
	}
	same("new")
	a.greets("", api.ErrLinkFrame)
	same("behind a refused Greet")
	a.greets(b.end.Hello(), api.OK)
	b.greets(a.end.Hello(), api.OK)
	same("ready")
	b.takes(a.sends("x"), "x")
	a.takes(b.sends("y"), "y")
	same("behind messages")
	a.close()
	if a.end.Hello() != "" || a.end.Hello() != "" {
		t.Error("closed: there is a hello")
	}
}

// noHellos is what the side 0 greets not, or the side 1.
func noHellos(side byte) map[string]string {
	other := 1 - side
	right := wantHello(key, other, nonces[other])
	l := map[string]string{
		"nothing":                            "",
		"the own hello":                      wantHello(key, side, nonces[side]),
		"the own side's with that nonce":     wantHello(key, side, nonces[other]),
		"another key's":                      wantHello(turned(key, 31, 0), other, nonces[other]),
		"an empty key's":                     wantHello("", other, nonces[other]),
		"34 bytes":                           right[:34],
		"34 bytes without the first":         right[1:],
		"36 bytes":                           right + "x",
		"36 bytes with one ahead":            "x" + right,
		"36 bytes, a nought behind":          right + "\x00",
		"a nonce of 15 bytes":                wantHello(key, other, nonces[other][1:]),
		"a nonce of 17 bytes":                wantHello(key, other, nonces[other]+"n"),
		"the whole Mac":                      right[:19] + mac(key, right[:19]),
		"the last bytes of the Mac":          right[:19] + mac(key, right[:19])[16:],
		"no tag":                             right[:19],
		"a tag of noughts":                   right[:19] + strings.Repeat("\x00", 16),
		"another nonce under that tag":       right[:3] + nonces[side] + right[19:],
		"a tag of the text without letters":  right[:19] + mac(key, right[2:19])[:16],
		"a side byte of 2":                   wantHello(key, 2, nonces[other]),
		"a side byte of 255":                 wantHello(key, 255, nonces[other]),
		"the side as a digit":                wantHello(key, '0'+other, nonces[other]),
		"a side byte with its highest bit":   wantHello(key, 128+other, nonces[other]),
		"letters LM":                         tagged(key, "LM"+right[2:19]),
		"letters lh":                         tagged(key, "lh"+right[2:19]),
		"letters HL":                         tagged(key, "HL"+right[2:19]),
		"letters LX":                         tagged(key, "LX"+right[2:19]),
		"letters XH":                         tagged(key, "XH"+right[2:19]),
		"a frame of the other side's":        ours.frame(other, 0, "message!!"),
		"a text of a hello's length":         strings.Repeat("x", 35),
		"noughts":                            strings.Repeat("\x00", 35),
		"a hello twice":                      right + right,
		"a long text":                        strings.Repeat(right, 1000),
		"a right hello, sealed as messages":  ours.sealed(other, right[:19]),
		"a right hello, sealed as the own's": ours.sealed(side, right[:19]),
	}
	return l
}

func TestK2GreetRefuses(t *testing.T) {
	for side := range 2 {
		x := try(t, key, side, nonces[side])
		for what, frame := range noHellos(byte(side)) {
			if errno := x.greet(frame); errno != api.ErrLinkFrame {
				t.Errorf("Greet of %s = %d", what, errno)
			}
			if x.end.Ready() {
				t.Fatalf("ready behind %s", what)
			}
		}
		x.greets(wantHello(key, byte(1-side), nonces[1-side]), api.OK)
	}
}

func TestK2GreetRefusesEachTurnedBit(t *testing.T) {
	for side := range 2 {
		x := try(t, key, side, nonces[side])
		right := wantHello(key, byte(1-side), nonces[1-side])
		for at := range right {
			for bit := range 8 {
				x.greets(turned(right, at, bit), api.ErrLinkFrame)
			}
		}
		for n := range right {
			x.greets(right[:n], api.ErrLinkFrame)
		}
		x.greets(right, api.OK)
	}
}

// Where both errors apply, it is ErrLinkState.
func TestK2GreetWhenItIsReadyOrClosed(t *testing.T) {
	for side := range 2 {
		right := wantHello(key, byte(1-side), nonces[1-side])
		ready, closed, both := try(t, key, side, nonces[side]), try(t, key, side, nonces[side]), try(t, key, side, nonces[side])
		ready.greets(right, api.OK)
		closed.close()
		both.greets(right, api.OK)
		both.close()
		for _, x := range []tried{ready, closed, both} {
			x.greets(right, api.ErrLinkState)
			x.greets(wantHello(key, byte(1-side), "another one's 16"), api.ErrLinkState)
			for _, frame := range noHellos(byte(side)) {
				x.greets(frame, api.ErrLinkState)
			}
		}
	}
}

// A second hello is refused and changes nothing: the keys stay those of the first one.
func TestK2ASecondHelloDoesNotChangeTheKeys(t *testing.T) {
	a, b := meet(t, ours)
	a.greets(wantHello(key, 1, "another one's 16"), api.ErrLinkState)
	b.takes(a.sends("x"), "x")
	a.takes(b.sends("y"), "y")
	a.refuses(talk{key, nonces[0], "another one's 16"}.frame(1, 1, "z"), api.ErrLinkFrame)
}

// A refused hello leaves nothing behind: the keys are by the nonce of the one that was greeted.
func TestK2RefusedHellosLeaveNothing(t *testing.T) {
	a, b := try(t, key, 0, nonces[0]), try(t, key, 1, nonces[1])
	for _, frame := range noHellos(0) {
		a.greets(frame, api.ErrLinkFrame)
	}
	a.greets(b.end.Hello(), api.OK)
	if got := a.sends("x"); got != ours.frame(0, 0, "x") {
		t.Errorf("Send = %x", got)
	}
}

// It does not matter who greets first, nor whether the other one has greeted at all.
func TestK2EachGreetsByItself(t *testing.T) {
	a, b := try(t, key, 0, nonces[0]), try(t, key, 1, nonces[1])
	b.greets(a.end.Hello(), api.OK)
	if a.end.Ready() || !b.end.Ready() {
		t.Fatal("the other one is ready")
	}
	first := b.sends("ahead of the other one's Greet")
	a.refuses(first, api.ErrLinkState)
	a.greets(b.end.Hello(), api.OK)
	a.takes(first, "ahead of the other one's Greet")
}

// Nothing says that two nonces must be different ones.
func TestK2BothWithOneNonce(t *testing.T) {
	a, b := meet(t, talk{key, nonces[0], nonces[0]})
	f, g := a.sends("to and fro"), b.sends("to and fro")
	if f == g {
		t.Error("both sides have the same keys")
	}
	b.takes(f, "to and fro")
	a.takes(g, "to and fro")
}
