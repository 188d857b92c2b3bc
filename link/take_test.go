package link_test

import (
	"fmt"
	"math"
	"strings"
	"testing"

	"strongbox/api"
	"strongbox/link"
)

func TestTheExamplesOfTheChapter(t *testing.T) {
	a, b := try(t, key, 0, nonces[0]), try(t, key, 1, nonces[1])
	a.refusesSend("a", api.ErrLinkState)
	a.greets(a.end.Hello(), api.ErrLinkFrame)
	a.greets(b.end.Hello(), api.OK)
	b.greets(a.end.Hello(), api.OK)
	f := a.sends("a")
	if len(f) != 27 {
		t.Errorf("a frame of %d bytes", len(f))
	}
	b.takes(f, "a")
	b.refuses(f, api.ErrLinkOld)
	a.refuses(f, api.ErrLinkFrame)

	a, b = meet(t, ours)
	var l []string
	for range 40 {
		l = append(l, a.sends("one of 40"))
	}
	b.takes(l[39], "one of 40")
	for number := range 39 {
		if number < 8 {
			b.refuses(l[number], api.ErrLinkOld)
		} else {
			b.takes(l[number], "one of 40")
		}
	}
	a.close()
	a.refusesSend("a", api.ErrLinkState)
}

// noFrames is what a side takes not, whatever it has taken; some of it is sealed by the right key.
func noFrames(side byte) map[string]string {
	from := 1 - side
	right := ours.frame(from, 5, "message")
	hiding, sealing := ours.keys(from)
	other := talk{turned(key, 0, 0), nonces[0], nonces[1]}
	l := map[string]string{
		"nothing":                           "",
		"letters alone":                     "LM",
		"25 bytes":                          ours.sealed(from, "LM"+byEight(5)[1:]),
		"25 bytes of an empty message":      ours.frame(from, 5, "")[:25],
		"16 bytes, the tag of nothing":      ours.sealed(from, ""),
		"15 bytes":                          ours.sealed(from, "")[1:],
		"4123 bytes":                        ours.frame(from, 5, text(4097, 1)),
		"4124 bytes":                        ours.frame(from, 5, text(4098, 1)),
		"30000 bytes":                       ours.frame(from, 5, text(30000, 1)),
		"a byte behind":                     right + "x",
		"a nought behind":                   right + "\x00",
		"a byte ahead":                      "x" + right,
		"a byte less":                       right[:len(right)-1],
		"without the first byte":            right[1:],
		"no tag":                            right[:len(right)-16],
		"a tag of noughts":                  right[:len(right)-16] + strings.Repeat("\x00", 16),
		"the last bytes of the Mac":         right[:17] + mac(sealing, right[:17])[16:],
		"the whole Mac":                     right[:17] + mac(sealing, right[:17]),
		"a tag by the hiding key":           tagged(hiding, right[:17]),
		"a tag by the key of both":          tagged(key, right[:17]),
		"a tag by no key":                   tagged("", right[:17]),
		"a tag of the message alone":        right[:17] + mac(sealing, right[10:17])[:16],
		"letters LH":                        ours.sealed(from, "LH"+right[2:17]),
		"letters lm":                        ours.sealed(from, "lm"+right[2:17]),
		"letters ML":                        ours.sealed(from, "ML"+right[2:17]),
		"letters LX":                        ours.sealed(from, "LX"+right[2:17]),
		"letters XM":                        ours.sealed(from, "XM"+right[2:17]),
		"noughts as letters":                ours.sealed(from, "\x00\x00"+right[2:17]),
		"the number 2 to the power of 63":   ours.frame(from, 1<<63, "message"),
		"that and 5":                        ours.frame(from, 1<<63+5, "message"),
		"that and 5, empty":                 ours.frame(from, 1<<63+5, ""),
		"that and that of 62":               ours.frame(from, 1<<63+1<<62, "message"),
		"the greatest number of 64 bits":    ours.frame(from, math.MaxUint64, "message"),
		"the greatest but one":              ours.frame(from, math.MaxUint64-1, "message"),
		"an own frame":                      ours.frame(side, 5, "message"),
		"another number under that tag":     right[:2] + byEight(6) + right[10:],
		"another message under that tag":    right[:10] + ours.frame(from, 5, "massage")[10:17] + right[17:],
		"another pair's":                    other.frame(from, 5, "message"),
		"another pair's of the own side":    other.frame(side, 5, "message"),
		"the nonces the other way round":    talk{key, nonces[1], nonces[0]}.frame(from, 5, "message"),
		"one nonce twice":                   talk{key, nonces[0], nonces[0]}.frame(from, 5, "message"),
		"another nonce of the side 0":       talk{key, turned(nonces[0], 3, 3), nonces[1]}.frame(from, 5, "message"),
		"another nonce of the side 1":       talk{key, nonces[0], turned(nonces[1], 3, 3)}.frame(from, 5, "message"),
		"the side 2":                        ours.frame(2, 5, "message"),
		"the other end's hello":             wantHello(key, from, nonces[from]),
		"the own hello":                     wantHello(key, side, nonces[side]),
		"a hello under a tag of frames":     ours.sealed(from, wantHello(key, from, nonces[from])[:19]),
		"a frame within a hello's tag":      wantHello(key, from, nonces[from]) + right,
		"a frame twice":                     right + right,
		"26 bytes, noughts":                 strings.Repeat("\x00", 26),
		"letters and noughts":               "LM" + strings.Repeat("\x00", 24),
		"4122 bytes of letters":             strings.Repeat("LM", 2061),
		"a long text":                       strings.Repeat("LM", 100000),
		"a frame of a frame as its message": "LM" + right,
	}
	return l
}

func TestK4TakeRefusesWhatIsNoFrame(t *testing.T) {
	for side := range 2 {
		a, b := meet(t, ours)
		x, y := []tried{a, b}[side], []tried{b, a}[side]
		for what, frame := range noFrames(byte(side)) {
			if s, errno := x.take(frame); s != "" || errno != api.ErrLinkFrame {
				t.Errorf("Take of %s = %.20q, %d", what, s, errno)
			}
		}
		for number := range 8 {
			f := y.sends(text(number, 9))
			x.takes(f, text(number, 9))
		}
	}
}

func TestK4TakeRefusesEachTurnedBit(t *testing.T) {
	a, b := meet(t, ours)
	for _, n := range []int{0, 1, 7, 40} {
		f := a.sends(text(n, n))
		for range 2 {
			for at := range f {
				for bit := range 8 {
					b.refuses(turned(f, at, bit), api.ErrLinkFrame)
				}
			}
			for n := range f {
				b.refuses(f[:n], api.ErrLinkFrame)
			}
			b.take(f)
		}
		b.refuses(f, api.ErrLinkOld)
	}
	f := a.sends(text(4096, 8))
	for at := range f {
		if s, errno := b.end.Take(turned(f, at, at%8)); s != "" || errno != api.ErrLinkFrame {
			t.Fatalf("a bit of the byte %d turned: %.20q, %d", at, s, errno)
		}
	}
	b.takes(f, text(4096, 8))
}

func TestK4TakeOfTheShortestAndTheLongest(t *testing.T) {
	a, b := meet(t, ours)
	for _, n := range []int{0, 1, 4095, 4096} {
		f := b.sends(text(n, 2))
		if want := n + 26; len(f) != want {
			t.Errorf("a frame of %d bytes, want %d", len(f), want)
		}
		a.takes(f, text(n, 2))
		a.refuses(f, api.ErrLinkOld)
	}
	a.refuses(ours.frame(1, 9, text(4097, 2)), api.ErrLinkFrame)
	a.refuses(ours.sealed(1, "LM"+byEight(9)[:7]), api.ErrLinkFrame)
}

// Where several errors apply, the first one is told: ErrLinkState ahead of ErrLinkFrame, that ahead of ErrLinkOld.
func TestK4TakeTellsTheErrorThatIsNamedFirst(t *testing.T) {
	early := try(t, key, 1, nonces[1])
	closed := try(t, key, 1, nonces[1])
	closed.close()
	_, ended := meet(t, ours)
	ended.takes(ours.frame(0, 5, "message"), "message")
	ended.close()
	for _, x := range []tried{early, closed, ended} {
		for _, frame := range noFrames(1) {
			x.refuses(frame, api.ErrLinkState)
		}
		x.refuses(ours.frame(0, 0, "a right one"), api.ErrLinkState)
		x.refuses(ours.frame(0, 5, "message"), api.ErrLinkState)
	}
	_, b := meet(t, ours)
	b.takes(ours.frame(0, 5, "message"), "message")
	b.takes(ours.frame(0, 100, "far ahead"), "far ahead")
	for _, frame := range noFrames(1) {
		b.refuses(frame, api.ErrLinkFrame)
	}
	for at, f := 0, ours.frame(0, 5, "message"); at < len(f); at++ {
		b.refuses(turned(f, at, 0), api.ErrLinkFrame)
	}
}

// What is refused ahead of Greet may be taken behind it.
func TestK4WhatCameTooEarlyMayComeAgain(t *testing.T) {
	x := try(t, key, 0, nonces[0])
	for number := range uint64(40) {
		x.refuses(ours.frame(1, number, "early"), api.ErrLinkState)
	}
	x.greets(wantHello(key, 1, nonces[1]), api.OK)
	for number := range uint64(40) {
		x.takes(ours.frame(1, number, "early"), "early")
	}
}

// Another message with a number that was taken is refused too, if it comes from who has the key.
func TestK4ANumberIsTakenOnce(t *testing.T) {
	_, b := meet(t, ours)
	b.takes(ours.frame(0, 3, "the first"), "the first")
	b.refuses(ours.frame(0, 3, "another"), api.ErrLinkOld)
	b.refuses(ours.frame(0, 3, ""), api.ErrLinkOld)
	b.takes(ours.frame(0, 2, "the first"), "the first")
}

func TestK5Counts(t *testing.T) {
	a, b := meet(t, ours)
	counts := func(x tried, sent, taken int) {
		t.Helper()
		if s, n := x.end.Counts(); s != sent || n != taken {
			t.Fatalf("Counts = %d, %d, want %d, %d", s, n, sent, taken)
		}
	}
	counts(a, 0, 0)
	f, g := a.sends("x"), a.sends("")
	counts(a, 2, 0)
	counts(b, 0, 0)
	a.refusesSend(text(4097, 1), api.ErrLinkLong)
	counts(a, 2, 0)
	b.takes(g, "")
	counts(b, 0, 1)
	b.refuses(g, api.ErrLinkOld)
	b.refuses("", api.ErrLinkFrame)
	counts(b, 0, 1)
	b.takes(f, "x")
	counts(b, 0, 2)
	a.takes(b.sends("y"), "y")
	counts(a, 2, 1)
	counts(b, 1, 2)
	a.close()
	counts(a, 2, 1)
	a.refusesSend("x", api.ErrLinkState)
	a.refuses(b.sends("z"), api.ErrLinkState)
	a.close()
	counts(a, 2, 1)
	counts(b, 2, 2)
}

func TestK5ClosedForGood(t *testing.T) {
	for _, greeted := range []bool{false, true} {
		x := try(t, key, 0, nonces[0])
		if greeted {
			x.greets(wantHello(key, 1, nonces[1]), api.OK)
			x.sends("x")
			x.takes(ours.frame(1, 7, "y"), "y")
		}
		for range 3 {
			x.close()
			if x.end.Ready() || x.end.Hello() != "" {
				t.Error("a closed end is ready, or has a hello")
			}
			x.greets(wantHello(key, 1, nonces[1]), api.ErrLinkState)
			x.greets("", api.ErrLinkState)
			x.refusesSend("", api.ErrLinkState)
			x.refuses(ours.frame(1, 8, "z"), api.ErrLinkState)
			x.refuses(ours.frame(1, 7, "y"), api.ErrLinkState)
			x.refuses("", api.ErrLinkState)
			if x.end.Ready() {
				t.Error("a closed end is ready again")
			}
		}
	}
}

// The other end is not told.
func TestK5CloseIsOneEndsOwn(t *testing.T) {
	a, b := meet(t, ours)
	f := a.sends("x")
	a.close()
	if !b.end.Ready() {
		t.Fatal("the other end is closed too")
	}
	b.takes(f, "x")
	b.sends("y")
}

// refusedCalls is all calls that an end refuses at any time when it is ready, and has taken the number 50.
func (x tried) refusedCalls(t *testing.T) {
	t.Helper()
	for _, frame := range noFrames(x.model.side) {
		x.refuses(frame, api.ErrLinkFrame)
		x.greets(frame, api.ErrLinkState)
	}
	from := 1 - x.model.side
	x.refuses(ours.frame(from, 50, "again"), api.ErrLinkOld)
	x.refuses(ours.frame(from, 18, "too late"), api.ErrLinkOld)
	x.refuses(ours.frame(from, 0, "too late"), api.ErrLinkOld)
	// A number that is no frame's, whatever it would do to the window.
	for _, number := range []uint64{0, 18, 19, 49, 50, 51, 82, 1000, math.MaxInt64, 1 << 63, math.MaxUint64} {
		for _, s := range []string{ours.frame(x.model.side, number, "own"), turned(ours.frame(from, number, "spoilt"), 3, 1), turned(ours.frame(from, number, "spoilt"), 30, 0)} {
			x.refuses(s, api.ErrLinkFrame)
		}
	}
	x.refusesSend(text(4097, 3), api.ErrLinkLong)
}

// Behind refused calls of all kinds each number of the window, and those beside it, is told as if there had been none.
func TestK5WhatWasRefusedChangesNothing(t *testing.T) {
	for side := range 2 {
		for probe := range uint64(84) {
			a, b := meet(t, ours)
			x := []tried{a, b}[side]
			from := byte(1 - side)
			for number := uint64(20); number <= 50; number += 3 {
				x.takes(ours.frame(from, number, "message"), "message")
			}
			x.sends("ahead")
			if probe%12 == 0 { // all kinds of refused calls are many
				x.refusedCalls(t)
			} else {
				x.refuses(turned(ours.frame(from, probe, "spoilt"), 30, 1), api.ErrLinkFrame)
				x.refuses(ours.frame(byte(side), probe, "own"), api.ErrLinkFrame)
				x.refuses(ours.frame(from, 1<<63+probe, "too great"), api.ErrLinkFrame)
				x.refuses(ours.frame(from, 50-probe%3*3, "again"), api.ErrLinkOld)
				x.refuses(ours.frame(from, probe%19, "too late"), api.ErrLinkOld)
			}
			x.take(ours.frame(from, probe, "probed"))
			for number := range uint64(84) {
				x.take(ours.frame(from, number, "message"))
			}
			if f := x.sends("behind"); f[2:10] != byEight(1) {
				t.Fatalf("the second frame has the number %x", f[2:10])
			}
		}
	}
}

// Two pairs by one key, told apart by a nonce alone, and one by another key, in turns.
func TestK7PairsInTurns(t *testing.T) {
	talks := []talk{ours, {key, nonces[0], text(16, 1)}, {text(32, 2), nonces[0], nonces[1]}}
	var left, right []tried
	for _, c := range talks {
		a, b := meet(t, c)
		left, right = append(left, a), append(right, b)
	}
	for round := range 50 {
		for k := range talks {
			m := fmt.Sprintf("round %d of the pair %d", round, k)
			f, g := left[k].sends(m), right[k].sends(m)
			for other := range talks {
				if other != k {
					right[other].refuses(f, api.ErrLinkFrame)
					left[other].refuses(g, api.ErrLinkFrame)
				}
			}
			right[k].takes(f, m)
			left[k].takes(g, m)
		}
		if round == 30 {
			left[1].close()
			right[1].close()
			talks[1] = talk{key, text(16, 3), text(16, 4)}
			left[1], right[1] = meet(t, talks[1])
		}
	}
}

// Two ends of one key, side and nonce are not one: what one does the other one does not know.
func TestK7TwinsKnowNothingOfOneAnother(t *testing.T) {
	a, b := meet(t, ours)
	twin := try(t, key, 1, nonces[1])
	f := a.sends("x")
	b.takes(f, "x")
	twin.refuses(f, api.ErrLinkState)
	twin.greets(a.end.Hello(), api.OK)
	twin.takes(f, "x")
	b.close()
	if !twin.end.Ready() {
		t.Fatal("the twin is closed too")
	}
	if g := twin.sends("y"); g != ours.frame(1, 0, "y") {
		t.Errorf("the twin sends %x", g)
	}
}

// What an end that was not made by New says is not told, but no call of it panics.
func TestK7AnEndThatNobodyMade(t *testing.T) {
	for _, e := range []*link.End{{}, new(link.End)} {
		for range 2 {
			for _, s := range []string{"", e.Hello(), wantHello("", 1, nonces[0]), ours.frame(0, 0, "x"), strings.Repeat("x", 35), strings.Repeat("x", 5000)} {
				e.Greet(s)
				e.Send(s)
				e.Take(s)
				e.Ready()
				e.Counts()
			}
			e.Close()
		}
	}
}
