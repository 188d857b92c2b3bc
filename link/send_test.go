package link_test

import (
	"strings"
	"testing"

	"strongbox/api"
)

// refusesSend is a Send that is refused.
func (x tried) refusesSend(message string, want api.Errno) {
	x.t.Helper()
	if got, errno := x.send(message); got != "" || errno != want {
		x.t.Fatalf("Send of %d bytes = %.20x, %d, want error %d", len(message), got, errno, want)
	}
}

func TestK3SendWhenItIsNotReady(t *testing.T) {
	for side := range 2 {
		x := try(t, key, side, nonces[side])
		for range 2 {
			for _, n := range []int{0, 1, 4095, 4096, 4097, 100000} {
				x.refusesSend(text(n, 1), api.ErrLinkState)
			}
			x.greets(x.end.Hello(), api.ErrLinkFrame)
		}
		x.greets(wantHello(key, byte(1-side), nonces[1-side]), api.OK)
		x.sends("")
		x.close()
		for _, n := range []int{0, 1, 4095, 4096, 4097, 100000} {
			x.refusesSend(text(n, 1), api.ErrLinkState)
		}
	}
}

// The text is laid together here once more, without the model.
func TestK3FramesByteByByte(t *testing.T) {
	for side := range 2 {
		a, b := meet(t, ours)
		x := []tried{a, b}[side]
		hiding, sealing := ours.keys(byte(side))
		for number, message := range []string{"", "a", "message", text(31, 1), text(32, 2), text(33, 3), text(256, 4), text(4096, 5)} {
			f := x.sends(message)
			if len(f) != len(message)+26 || f[:2] != "LM" || f[2:10] != "\x00\x00\x00\x00\x00\x00\x00"+string([]byte{byte(number)}) {
				t.Fatalf("a frame of %d bytes of a message of %d begins %.10x", len(f), len(message), f)
			}
			if hidden := f[10 : 10+len(message)]; laidOn(mac(hiding, f[2:10]), hidden) != message {
				t.Errorf("the message %d is hidden as %.20x", number, hidden)
			}
			if cut := len(message) + 10; f[cut:] != mac(sealing, f[:cut])[:16] {
				t.Errorf("the tag of the frame %d = %x", number, f[cut:])
			}
		}
	}
}

func TestK3SendOfEachLength(t *testing.T) {
	a, b := meet(t, ours)
	for _, n := range []int{0, 1, 2, 31, 32, 33, 4095, 4096} {
		for _, m := range []string{text(n, n), strings.Repeat("\x00", n), strings.Repeat("\xff", n)} {
			f := a.sends(m)
			if len(f) != n+26 {
				t.Errorf("a frame of %d bytes of a message of %d", len(f), n)
			}
			b.takes(f, m)
		}
	}
	for _, n := range []int{4097, 4098, 4122, 65536, 65537, 1 << 20} {
		a.refusesSend(text(n, n), api.ErrLinkLong)
	}
}

func TestK3NumbersRiseByOne(t *testing.T) {
	a, b := meet(t, ours)
	for number := range uint64(600) {
		f := a.sends("same")
		if f[2:10] != byEight(number) {
			t.Fatalf("the frame %d has the number %x", number, f[2:10])
		}
		// None of these takes a number away.
		a.refusesSend(text(4097, 1), api.ErrLinkLong)
		a.refuses(f, api.ErrLinkFrame)
		a.greets(b.end.Hello(), api.ErrLinkState)
		if number%3 == 0 {
			a.takes(b.sends("back"), "back")
		}
	}
}

// The same message is hidden in another way by each number, each side, each nonce and each key.
func TestK3NoTwoFramesAreAlike(t *testing.T) {
	seen := map[string]bool{}
	count := 0
	for _, c := range []talk{ours, {key, nonces[1], nonces[0]}, {key, turned(nonces[0], 0, 0), nonces[1]}, {key, nonces[0], turned(nonces[1], 15, 7)}, {turned(key, 0, 7), nonces[0], nonces[1]}} {
		a, b := meet(t, c)
		for range 20 {
			for _, x := range []tried{a, b} {
				f := x.sends("the same message")
				seen[f[10:26]], seen[f[26:]] = true, true
				count += 2
			}
		}
	}
	if len(seen) != count {
		t.Errorf("of %d hidden messages and tags %d are different ones", count, len(seen))
	}
}
