package quorum_test

import (
	"slices"
	"strings"
	"testing"

	"strongbox/api"
	"strongbox/quorum"
)

var longest = strings.Repeat("v", 400)

// manyEntries is one at each of some places from 0 on, of a value.
func manyEntries(n, ballot int, value string) []entry {
	var l []entry
	for place := range n {
		l = append(l, entry{place, ballot, value})
	}
	return l
}

// framesOf is right frames of each kind between two nodes, with the edges of their fields.
func framesOf(from, to int) []string {
	var out []string
	for _, k := range []int{0, 1, 26, 13105, 13106} {
		out = append(out, prepare(from, to, 5*k+from), promise(from, to, 5*k+to), refuse(from, to, 5*k+from))
		for _, place := range []int{0, 1, 62, 63} {
			out = append(out, accept(from, to, 5*k+from, place, "value"), accepted(from, to, 5*k+to, place))
		}
	}
	for _, value := range []string{"", "v", "\x00", strings.Repeat("\xff", 255), strings.Repeat("x", 256), longest[1:], longest} {
		out = append(out, accept(from, to, from, 0, value), holds(from, to, 0, value), holds(from, to, 63, value))
		out = append(out, promise(from, to, to, entry{0, 0, value}), promise(from, to, to, entry{63, 65535, value}), promise(from, to, 65530+to, manyEntries(64, 65535, value)...))
	}
	out = append(out, promise(from, to, to, entry{1, 3, "a"}, entry{2, 1, ""}, entry{62, 2, "b"}, entry{63, 0, ""}))
	for _, place := range []int{0, 1, 63, 64} {
		out = append(out, ask(from, to, place))
	}
	return append(out, refuse(from, to, 0), refuse(from, to, 65535))
}

// owned is frames whose ballot belongs to a node, by the kinds whose ballots must: to the sender, or to the receiver.
func owned(from, to int, ballotOf func(owner int) int) []string {
	return []string{
		prepare(from, to, ballotOf(from)), accept(from, to, ballotOf(from), 7, "value"),
		promise(from, to, ballotOf(to)), promise(from, to, ballotOf(to), entry{7, 1, "value"}), accepted(from, to, ballotOf(to), 7),
	}
}

// wrongNumbers is texts with a right check in which one number is none that may be there.
func wrongNumbers(from, to int) []string {
	var out []string
	for turn := 1; turn < 5; turn++ {
		out = append(out, owned(from, to, func(owner int) int { return (owner+turn)%5 + 5 })...)
	}
	// Of greater numbers those that belong to the right node, too.
	for _, above := range []int{65540, 1 << 24, 1 << 31, 1<<32 - 5} {
		for turn := range 5 {
			out = append(out, owned(from, to, func(owner int) int { return above - above%5 + (owner+turn)%5 })...)
		}
	}
	for _, ballot := range []int{65536, 65537, 131072, 1<<32 - 1} {
		out = append(out, owned(from, to, func(int) int { return ballot })...)
		out = append(out, refuse(from, to, ballot), promise(from, to, to, entry{0, ballot, ""}), promise(from, to, to, entry{0, 1, ""}, entry{1, ballot, ""}))
	}
	for _, place := range []int{64, 65, 127, 128, 255, 256, 320, 65535} {
		out = append(out, accept(from, to, from, place, ""), accepted(from, to, to, place), holds(from, to, place, ""), ask(from, to, min(place+1, 65535)))
		out = append(out, promise(from, to, to, entry{place, 0, ""}), promise(from, to, to, entry{3, 0, ""}, entry{place, 0, ""}))
	}
	return append(out, wrongEnds(from, to)...)
}

// wrongEnds is frames from, or to, a node that is none of five, or to the sender.
func wrongEnds(from, to int) []string {
	var out []string
	for _, none := range []int{5, 6, 10, 127, 128, 255} {
		for _, ends := range [][2]int{{none, to}, {from, none}, {none, none + 1}} {
			out = append(out, owned(ends[0], ends[1], func(owner int) int { return owner % 5 })...)
			out = append(out, owned(ends[0], ends[1], func(owner int) int { return owner })...)
			out = append(out, holds(ends[0], ends[1], 0, "value"), refuse(ends[0], ends[1], 7), ask(ends[0], ends[1], 0))
		}
	}
	for _, both := range []int{from, to} {
		out = append(out, owned(both, both, func(owner int) int { return owner })...)
		out = append(out, holds(both, both, 0, "value"), refuse(both, both, 7), ask(both, both, 0))
	}
	return out
}

// wrongLists is PROMISEs with a right check whose entries do not rise, or are not as many as is told.
func wrongLists(from, to int) []string {
	a, b, c := entry{1, 0, "a"}, entry{2, 0, "b"}, entry{3, 0, "c"}
	var out []string
	for _, l := range [][]entry{{a, a}, {b, a}, {a, c, b}, {c, a, b}, {a, b, b}, {a, a, b}, {a, {1, 1, "other"}}, {{0, 0, ""}, {0, 0, ""}}, append(manyEntries(64, 0, ""), entry{63, 0, ""}), append(manyEntries(64, 0, ""), entry{0, 0, ""}), manyEntries(65, 0, "")} {
		out = append(out, promise(from, to, to, l...))
	}
	for _, l := range [][]entry{nil, {a}, {a, b}, manyEntries(64, 0, "v")} {
		told := entriesText(l)[2:]
		for _, many := range []int{len(l) - 1, len(l) + 1, len(l) + 256, 65, 128, 65535} {
			out = append(out, frame(2, from, to, num(to, 4)+num(many, 2)+told))
		}
	}
	return out
}

// wrongValues is texts with a right check that have too long a value, or one that is not as long as is told.
func wrongValues(from, to int) []string {
	var out []string
	heads := []string{num(from, 4) + num(7, 2), num(7, 2), num(to, 4) + num(1, 2) + num(7, 2) + num(0, 4)}
	for k, kind := range []int{3, 5, 2} {
		for _, long := range []int{401, 402, 512, 656, 65535} {
			out = append(out, frame(kind, from, to, heads[k]+valued(strings.Repeat("v", long))))
		}
		for _, said := range []string{num(5, 2) + "four", num(3, 2) + "four", num(1, 2), num(0, 2) + "v", num(400, 2) + longest[1:], num(400, 2) + longest + "v", num(65535, 2) + "four", "\x00", ""} {
			out = append(out, frame(kind, from, to, heads[k]+said))
		}
	}
	return out
}

// otherForms is what a right frame is made to by other letters, kinds, lengths, or checks: all but those whose check is meant have a right one.
func otherForms(s string) []string {
	body := s[:len(s)-4]
	out := []string{s + "x", s + "\x00", s[1:], "x" + s, s + s, checked(s), checked(body + "x"), checked(body + "\x00"), body, body + "\x00\x00\x00\x00"}
	for _, letters := range []string{"QS", "MQ", "qm", "Qm", "qM", "QQ", "MM", "RF", "LM", "\x00\x00"} {
		out = append(out, again(letters+s[2:]))
	}
	for _, kind := range []int{0, 8, 9, 16, 127, 128, 255} {
		out = append(out, again("QM"+num(kind, 1)+s[3:]))
	}
	for n := range len(s) {
		out = append(out, s[:n])
	}
	for n := range len(body) {
		out = append(out, checked(body[:n]))
	}
	for at := range s {
		out = append(out, turned(s, at, at%8))
	}
	check := []byte(s[len(body):])
	slices.Reverse(check)
	return append(out, body+string(check))
}

// noFrames is texts that are none, those of most kinds between two nodes.
func noFrames(from, to int) []string {
	out := slices.Concat([]string{"", "Q", "QM", checked(""), checked("QM"), strings.Repeat("\x00", 4), strings.Repeat("\x00", 9), saved(from, 5, from, nil, nil)}, wrongNumbers(from, to), wrongLists(from, to), wrongValues(from, to))
	for _, s := range []string{prepare(from, to, from), promise(from, to, to), promise(from, to, to, entry{7, 1, "value"}, entry{9, 2, ""}), accept(from, to, from, 7, "value"), accepted(from, to, to, 7), holds(from, to, 7, "value"), refuse(from, to, 7), ask(from, to, 7)} {
		out = append(out, otherForms(s)...)
	}
	return out
}

func TestQ1New(t *testing.T) {
	for n := 1; n <= 5; n++ {
		for id := range n {
			x := tryNode(t, id, n)
			x.doing(idle)
			x.doesNotOffer("value", api.ErrQuorumLead)
			if s := x.is.Saved(); s != saved(id, n, -1, nil, nil) {
				t.Errorf("New(%d, %d): Saved = %q", id, n, s)
			}
		}
	}
}

// noNodes is numbers of which there is no node.
var noNodes = [][2]int{
	{0, 0}, {0, 6}, {5, 6}, {0, -1}, {-1, -1}, {0, 7}, {0, 256}, {0, 257}, {0, 1 << 32}, {0, 1<<32 + 3}, {-1 << 63, 1}, {1<<63 - 1, 5}, {0, 1<<63 - 1}, {0, -1 << 63},
	{-1, 1}, {1, 1}, {2, 1}, {-1, 2}, {2, 2}, {-1, 3}, {3, 3}, {4, 3}, {-1, 4}, {4, 4}, {-1, 5}, {5, 5}, {6, 5}, {256, 5}, {1 << 32, 5}, {-5, 5},
}

func TestQ1NewOfNoNode(t *testing.T) {
	for _, c := range noNodes {
		if q, errno := quorum.New(c[0], c[1]); q != nil || errno != api.ErrQuorumNode {
			t.Errorf("New(%d, %d) = %v, %d", c[0], c[1], q, errno)
		}
	}
}

func TestQ1To(t *testing.T) {
	for from := range 5 {
		for _, to := range others(from, 5) {
			for _, s := range framesOf(from, to) {
				if _, isOne := readParts(s); !isOne {
					t.Fatalf("the model says that it is none: %x", s)
				}
				if got, errno := quorum.To(s); got != to || errno != api.OK {
					t.Errorf("To of %s = %d, %d, want %d", show(s), got, errno, to)
				}
			}
		}
	}
}

func TestQ1ToOfNoFrame(t *testing.T) {
	for from := range 5 {
		for _, to := range others(from, 5) {
			for _, s := range noFrames(from, to) {
				if _, isOne := readParts(s); isOne {
					t.Fatalf("the model says that it is one: %s, %x", show(s), s)
				}
				if got, errno := quorum.To(s); got != 0 || errno != api.ErrQuorumFrame {
					t.Errorf("To of %.60x.. (%d bytes) = %d, %d", s, len(s), got, errno)
				}
			}
		}
	}
}

// Every bit of frames of each kind, of long ones one bit in some of the bytes: it is in the check, or under it.
func TestQ1ToOfTurnedBits(t *testing.T) {
	for _, s := range append(framesOf(1, 3), framesOf(4, 0)...) {
		step := 1 + len(s)/500
		for at := 0; at < len(s); at += step {
			for bit := at % step; bit < 8; bit += step {
				if got, errno := quorum.To(turned(s, at, bit)); got != 0 || errno != api.ErrQuorumFrame {
					t.Fatalf("To of %s with the bit %d of the byte %d turned = %d, %d", show(s), bit, at, got, errno)
				}
			}
		}
	}
}

// What one that is idle, asks or leads says of frames that are none, or not for it; and that nothing comes of them.
func TestQ5TakeOfNoFrame(t *testing.T) {
	for _, make := range []func(*testing.T, int, int) *tried{tryNode, asks, leads} {
		x := make(t, 1, 3)
		before := x.is.Saved()
		for _, s := range noFrames(2, 1) {
			if got, errno := x.is.Take(s); len(got) != 0 || errno != api.ErrQuorumFrame {
				t.Fatalf("Take of %.60x = %s, %d", s, shown(got), errno)
			}
		}
		x.stands("frames that are none")
		if x.is.Saved() != before {
			t.Error("something came of it")
		}
	}
}

func TestQ5TakeOfOthersFrames(t *testing.T) {
	for n := 1; n <= 5; n++ {
		for id := range n {
			for _, make := range []func(*testing.T, int, int) *tried{tryNode, asks, leads} {
				x := make(t, id, n)
				for from := range 5 {
					for _, to := range others(from, 5) {
						if to == id && from < n {
							continue
						}
						for _, s := range append(owned(from, to, func(owner int) int { return owner + 5 }), holds(from, to, 0, "value"), refuse(from, to, 65535), ask(from, to, 0)) {
							if got, errno := x.is.Take(s); len(got) != 0 || errno != api.ErrQuorumFrame {
								t.Fatalf("the node %d of %d: Take of %s = %s, %d", id, n, show(s), shown(got), errno)
							}
						}
					}
				}
				x.stands("frames for others, or of others")
			}
		}
	}
}
