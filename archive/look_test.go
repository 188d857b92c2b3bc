package archive_test

import (
	"math/rand"
	"slices"
	"strings"
	"testing"

	"strongbox/api"
	"strongbox/archive"
)

// samples is archives of both kinds: the least ones, small ones, great ones.
func samples() map[string]string {
	from, to := row(1, 2, 3), []api.Item{item(2, 77), item(3, 3), item(4, 4)}
	full := first(60)
	return map[string]string{
		"a whole of nothing":            wantWhole(),
		"a whole of one":                wantWhole(row(7)...),
		"a whole of two":                wantWhole(row(0, 59)...),
		"a whole of sixty":              wantWhole(full...),
		"a change of nothing":           wantChange(nil, nil),
		"a change that sets one":        wantChange(nil, row(7)),
		"a change that clears one":      wantChange(row(7), nil),
		"a change that does both":       wantChange(from, to),
		"a change that sets sixty":      wantChange(nil, full),
		"a change that clears sixty":    wantChange(full, nil),
		"a change of thirty and thirty": wantChange(full[:30], full[30:]),
	}
}

func TestA3WhatArchivesSay(t *testing.T) {
	l := row(7, 8)
	isOne(t, "a whole of nothing", wantWhole(), api.Archive{Full: true, From: sum(""), To: sum("")})
	isOne(t, "a whole of two", wantWhole(l...), api.Archive{Full: true, From: sum(""), To: wantRoot(l...), Sets: 2})
	isOne(t, "a change of nothing", wantChange(nil, nil), api.Archive{From: sum(""), To: sum("")})
	isOne(t, "a change that sets", wantChange(nil, l), api.Archive{From: sum(""), To: wantRoot(l...), Sets: 2})
	isOne(t, "a change that clears", wantChange(l, nil), api.Archive{From: wantRoot(l...), To: sum(""), Clears: 2})
	full := first(60)
	isOne(t, "a whole of sixty", wantWhole(full...), api.Archive{Full: true, From: sum(""), To: wantRoot(full...), Sets: 60})
	isOne(t, "a change of sixty to nothing", wantChange(full, nil), api.Archive{From: wantRoot(full...), To: sum(""), Clears: 60})
	isOne(t, "a change of thirty and thirty", wantChange(full[:30], full[30:]), api.Archive{From: wantRoot(full[:30]...), To: wantRoot(full[30:]...), Sets: 30, Clears: 30})
	for what, s := range samples() {
		if _, errno := archive.Look(s); errno != api.OK {
			t.Errorf("Look of %s: %d", what, errno)
		}
		looks(t, what, s)
	}
}

func TestA3OtherLengths(t *testing.T) {
	for _, s := range []string{"", "S", "SA", "SA\x01", checked(""), checked("S"), checked("SA"), checked("SA\x01"), "\x00\x00\x00\x00", strings.Repeat("x", 73), strings.Repeat("\x00", 378)} {
		isNone(t, "a short text", s)
	}
	for what, s := range samples() {
		body := s[:len(s)-4]
		isNone(t, what+" without its last byte", s[:len(s)-1])
		isNone(t, what+" without its first byte", s[1:])
		isNone(t, what+" without its check", body)
		for _, more := range []string{"\x00", "x", "\x3b", s} {
			isNone(t, what+" and more", s+more)
			isNone(t, what+" with more ahead", more+s)
			isNone(t, what+" with more ahead of its check", checked(body+more))
		}
		isNone(t, what+" that is one byte too short", checked(body[:len(body)-1]))
		isNone(t, what+" that is an item too long", checked(body+asBytes(item(59, 59))))
	}
	s := wantChange(row(1, 2, 3), row(2, 4))
	for n := range len(s) {
		isNone(t, "a beginning", s[:n])
		isNone(t, "a beginning with its check", checked(s[:min(n, len(s)-5)]))
	}
}

// Whichever bit is turned, the check tells it.
func TestA3BitsTurned(t *testing.T) {
	for what, s := range samples() {
		if len(s) > 1000 {
			continue
		}
		for bit := range 8 * len(s) {
			isNone(t, what+" with a bit turned", turned(s, bit))
		}
	}
}

// Whichever bit is turned: if the check is made right again, the form alone tells.
func TestA3BitsTurnedAndCheckedAgain(t *testing.T) {
	for what, s := range samples() {
		if len(s) > 1000 {
			continue
		}
		for bit := range 8 * (len(s) - 4) {
			looks(t, what+" with a bit turned", again(turned(s, bit)))
		}
	}
}

func TestA3ChecksOtherwise(t *testing.T) {
	for what, s := range samples() {
		body, check := s[:len(s)-4], []byte(s[len(s)-4:])
		slices.Reverse(check)
		isNone(t, what+" with its check the highest first", body+string(check))
		isNone(t, what+" with no check", body+"\x00\x00\x00\x00")
	}
}

func TestA3LettersAndKinds(t *testing.T) {
	for what, s := range samples() {
		for b := range 256 {
			if b != 'S' {
				isNone(t, what+" with another first letter", put(s, 0, byte(b)))
			}
			if b != 'A' {
				isNone(t, what+" with another second letter", put(s, 1, byte(b)))
			}
			if b != 1 && b != 2 {
				isNone(t, what+" of another kind", put(s, 2, byte(b)))
			}
		}
	}
	// A change from nothing has all that a whole has, but its kind.
	for _, l := range lists() {
		if put(wantChange(nil, l), 2, 1) != wantWhole(l...) {
			t.Fatalf("a whole of %d is another one", len(l))
		}
		looks(t, "a change from nothing as a whole", put(wantChange(nil, l), 2, 1))
		isOne(t, "a whole as a change", put(wantWhole(l...), 2, 2), api.Archive{From: sum(""), To: wantRoot(l...), Sets: len(l)})
	}
	l := row(1, 2)
	isNone(t, "a change from something as a whole", put(wantChange(l, row(1, 2, 3)), 2, 1))
	isNone(t, "a change that clears as a whole", put(wantChange(l, row(1)), 2, 1))
	isNone(t, "a change of a list to itself as a whole", put(wantChange(l, l), 2, 1))
}

func TestA3Numbers(t *testing.T) {
	for what, s := range samples() {
		for b := range 256 {
			if byte(b) != s[67] {
				isNone(t, what+" that sets another number", put(s, 67, byte(b)))
			}
			if byte(b) != s[68] {
				isNone(t, what+" that clears another number", put(s, 68, byte(b)))
			}
		}
	}
}

func TestA3RootsOfWholes(t *testing.T) {
	l := row(4, 9)
	root, none, other := wantRoot(l...), sum(""), wantRoot(row(4)...)
	for _, roots := range [][2]string{{root, root}, {other, root}, {root, none}, {none, none}, {none, other}, {other, other}, {none, sum("x")}, {none, wantRoot(l[1], l[0])}, {strings.Repeat("\x00", 32), root}} {
		isNone(t, "a whole of other roots", laid(1, roots[0], roots[1], l))
	}
	for _, roots := range [][2]string{{other, none}, {none, other}, {root, root}, {sum("x"), none}} {
		isNone(t, "a whole of nothing of other roots", laid(1, roots[0], roots[1], nil))
	}
	isNone(t, "a whole that clears", laid(1, none, root, l, 5))
	isNone(t, "a whole that clears what it sets", laid(1, none, root, l, 9))
	isNone(t, "a whole of nothing that clears", laid(1, none, none, nil, 0))
	isOne(t, "a whole", laid(1, none, root, l), api.Archive{Full: true, From: none, To: root, Sets: 2})
}

// A change has the form of one whatever its roots are.
func TestA3RootsOfChanges(t *testing.T) {
	l := row(4, 9)
	for _, from := range []string{sum(""), wantRoot(l...), sum("x"), strings.Repeat("\x00", 32), strings.Repeat("\xff", 32)} {
		for _, to := range []string{sum(""), wantRoot(l...), sum("y"), strings.Repeat("\x00", 32), strings.Repeat("\xff", 32)} {
			isOne(t, "a change of any roots", laid(2, from, to, l, 3, 5), api.Archive{From: from, To: to, Sets: 2, Clears: 2})
			isOne(t, "a change of nothing of any roots", laid(2, from, to, nil), api.Archive{From: from, To: to})
		}
	}
}

func TestA3BlocksThatAreSet(t *testing.T) {
	root := wantRoot(row(1)...)
	for _, blocks := range [][]int{{60}, {61}, {128}, {255}, {0, 60}, {59, 60}, {60, 0}, {60, 61}, {0, 0}, {59, 59}, {1, 0}, {59, 0}, {1, 3, 2}, {3, 1, 2}, {1, 2, 2}, {1, 1, 2}, {2, 3, 1}} {
		isNone(t, "a change that sets such blocks", laid(2, root, root, row(blocks...)))
		isNone(t, "a whole of such blocks", laid(1, sum(""), wantRoot(row(blocks...)...), row(blocks...)))
	}
	isNone(t, "a change that sets sixty and one", laid(2, root, root, append(first(60), item(59, 59))))
	isNone(t, "a change that sets 255", laid(2, root, root, first(255)))
	for block := range 256 {
		looks(t, "a change that sets one block", laid(2, root, root, row(block)))
		looks(t, "a whole of one block", laid(1, sum(""), wantRoot(row(block)...), row(block)))
	}
}

func TestA3BlocksThatAreCleared(t *testing.T) {
	root := wantRoot(row(1)...)
	for _, blocks := range [][]byte{{60}, {61}, {128}, {255}, {0, 60}, {59, 60}, {60, 0}, {60, 61}, {0, 0}, {59, 59}, {1, 0}, {59, 0}, {1, 3, 2}, {3, 1, 2}, {1, 2, 2}, {1, 1, 2}, {2, 3, 1}} {
		isNone(t, "a change that clears such blocks", laid(2, root, root, nil, blocks...))
		isNone(t, "a change that sets one and clears such blocks", laid(2, root, root, row(30), blocks...))
	}
	all := make([]byte, 255)
	for block := range all {
		all[block] = byte(block)
	}
	isOne(t, "a change that clears sixty", laid(2, root, root, nil, all[:60]...), api.Archive{From: root, To: root, Clears: 60})
	isNone(t, "a change that clears sixty and one", laid(2, root, root, nil, all[:61]...))
	isNone(t, "a change that clears 255", laid(2, root, root, nil, all...))
	for block := range 256 {
		looks(t, "a change that clears one block", laid(2, root, root, nil, byte(block)))
	}
}

func TestA3BlocksThatAreSetAndCleared(t *testing.T) {
	root := wantRoot(row(1)...)
	for set := range 60 {
		for cleared := range 60 {
			s := laid(2, root, root, row(set), byte(cleared))
			if set == cleared {
				isNone(t, "a block set and cleared", s)
			} else {
				isOne(t, "a block set, another one cleared", s, api.Archive{From: root, To: root, Sets: 1, Clears: 1})
			}
		}
	}
	isNone(t, "the first of several", laid(2, root, root, row(0, 2, 4), 0, 1, 3))
	isNone(t, "the last of several", laid(2, root, root, row(0, 2, 59), 1, 3, 59))
	isNone(t, "one in the midst", laid(2, root, root, row(0, 2, 4), 1, 2, 3))
	isNone(t, "sixty set, one cleared", laid(2, root, root, first(60), 33))
}

func TestA4Read(t *testing.T) {
	for _, l := range lists() {
		got, errno := archive.Read(wantWhole(l...))
		if !slices.Equal(got, l) || errno != api.OK {
			t.Errorf("Read of a whole of %d: %d items, %d", len(l), len(got), errno)
		}
	}
	for _, from := range lists() {
		for _, to := range lists() {
			got, errno := archive.Read(wantChange(from, to))
			if len(got) != 0 || errno != api.ErrArchiveKind {
				t.Errorf("Read of a change: %d items, %d", len(got), errno)
			}
		}
	}
}

// What is no archive is told ahead of what is no whole.
func TestA4ReadOfNoArchive(t *testing.T) {
	for what, s := range samples() {
		for _, spoilt := range []string{"", s + "x", s[:len(s)-1], turned(s, 0), turned(s, 8*40), turned(s, 8*len(s)-1)} {
			if got, errno := archive.Read(spoilt); len(got) != 0 || errno != api.ErrArchiveForm {
				t.Errorf("Read of %s, spoilt: %d items, %d", what, len(got), errno)
			}
		}
	}
}

// chanceText is a text that is, or is nearly, an archive.
func chanceText(r *rand.Rand) string {
	l, m := chanceItems(r), chanceItems(r)
	var clears []byte
	for block := range 62 {
		if r.Intn(9) == 0 {
			clears = append(clears, byte(block))
		}
	}
	switch r.Intn(8) {
	case 0:
		return wantWhole(l...)
	case 1:
		return wantChange(l, m)
	case 2:
		return laid(2, wantRoot(l...), wantRoot(m...), m, clears...)
	case 3:
		return laid(byte(r.Intn(4)), sum(""), wantRoot(l...), l, clears[:r.Intn(len(clears)+1)]...)
	case 4:
		s := wantChange(l, m)
		return put(s, r.Intn(len(s)-4), byte(r.Intn(256)))
	case 5:
		s := wantWhole(l...)
		return put(s, r.Intn(len(s)-4), byte(r.Intn(256)))
	case 6:
		s := wantChange(l, m)
		at := r.Intn(len(s))
		return s[:at] + s[min(len(s), at+r.Intn(3)):]
	}
	b := make([]byte, r.Intn(700))
	r.Read(b)
	return checked("SA" + string(b))
}

func TestA3TextsByChance(t *testing.T) {
	r := rand.New(rand.NewSource(3))
	told := 0
	for range 3000 {
		s := chanceText(r)
		looks(t, "a text by chance", s)
		if _, errno := archive.Look(s); errno == api.OK {
			told++
		}
	}
	if told < 500 || told > 2500 {
		t.Errorf("%d of 3000 are archives: chance tries too little", told)
	}
}
