package replica_test

import (
	"strings"
	"testing"

	"strongbox/api"
	"strongbox/replica"
)

func TestX4WordsLaidByHand(t *testing.T) {
	if want := unhex(t, "52570100000001"+noughtRoot+"d48be35a"); wantWord(1, image(128)) != want || len(want) != 43 {
		t.Error("the model says another word")
	}
	if want := unhex(t, "5257010000ffff"+noughtRoot+"6cd50996"); wantWord(65535, image(128)) != want {
		t.Error("the model says another word of a great number")
	}
	if want := unhex(t, "525700"+strings.Repeat("00", 36)+"0a393ef8"); wordOfNothing != want || len(want) != 43 {
		t.Error("the model says another word of nothing")
	}
	p := tryPrimary(t, image(128))
	p.confirms(unhex(t, "525700"+strings.Repeat("00", 36)+"0a393ef8"), 1)
	p.confirms(unhex(t, "52570100000001"+noughtRoot+"d48be35a"), 0)
}

// noWords is texts that are none, most of them with a right check.
func noWords(now []string) []string {
	right := wantWord(1, now)
	l := []string{"", "R", "RW", "RW\x01", right[1:], right[:42], right + "x", right[:39], checked(""), checked(right), checked(right[:38]), checked(right[:39] + "\x00"), checked(wordOfNothing[:38]), checked(wordOfNothing[:39] + "\x00"), strings.Repeat("\x00", 43)}
	for _, letters := range []string{"RF", "rw", "WR", "SW", "RV", "RX", "\x00\x00", "LM"} {
		l = append(l, again(letters+right[2:]), again(letters+wordOfNothing[2:]))
	}
	for _, kind := range []int{2, 3, 4, 127, 128, 255} {
		l = append(l, again("RW"+num(kind, 1)+right[3:]), again("RW"+num(kind, 1)+wordOfNothing[3:]))
	}
	for at := 3; at < 39; at++ {
		for _, bit := range []int{0, 7} {
			l = append(l, again(turned(wordOfNothing, at, bit)))
		}
	}
	l = append(l, again("RW\x00"+right[3:]))
	for at := range 43 {
		for bit := range 8 {
			l = append(l, turned(right, at, bit), turned(wordOfNothing, at, bit))
		}
	}
	// The check's bytes, the highest first.
	return append(l, right[:39]+right[42:]+right[41:42]+right[40:41]+right[39:40])
}

func TestX4ConfirmOfNoWord(t *testing.T) {
	a, b := image(128, 1, 1), image(128, 2, 2)
	unconfirmed, based, done := tryPrimary(t, a), tryPrimary(t, a, b), tryPrimary(t, a)
	based.confirms(wantWord(1, a), 1)
	done.confirms(wantWord(1, a), 0)
	for _, p := range []triedPrimary{unconfirmed, based, done} {
		for _, s := range append(noWords(a), wantWhole(1, a), wantChange(1, a, 2, b)) {
			p.disbelieves(s, api.ErrReplicaFrame)
		}
	}
	unconfirmed.confirms(wantWord(1, a), 0)
	based.confirms(wantWord(2, b), 0)
}

func TestX4TheWordOfNothing(t *testing.T) {
	p := tryPrimary(t, numbered(1))
	for n := 2; n <= 12; n++ {
		p.confirms(wordOfNothing, len(p.model.notes))
		p.notes(numbered(n), api.OK)
	}
	p.confirms(wordOfNothing, 4)
	p.confirms(wantWord(10, numbered(10)), 2)
	p.disbelieves(wordOfNothing, api.ErrReplicaOld)
	p.confirms(wantWord(12, numbered(12)), 0)
	p.disbelieves(wordOfNothing, api.ErrReplicaOld)
	for n := 13; n <= 21; n++ {
		p.notes(numbered(n), api.OK)
		p.disbelieves(wordOfNothing, api.ErrReplicaOld)
	}
	p.confirms(wantWord(15, numbered(15)), 1) // forgotten: there is no base any more
	p.confirms(wordOfNothing, 1)
}

func TestX4NumbersThatWereNotNoted(t *testing.T) {
	a, b, c := image(128, 1, 1), image(128, 2, 2), image(128, 3, 3)
	unconfirmed, based, done := tryPrimary(t, a, b, c), tryPrimary(t, a, b, c), tryPrimary(t, a, b, c)
	based.confirms(wantWord(2, b), 1)
	done.confirms(wantWord(3, c), 0)
	for _, p := range []triedPrimary{unconfirmed, based, done} {
		for _, number := range []int{0, 4, 5, 255, 256, 65535, 65536, 65537, 1 << 24, 1<<24 + 1, 1 << 31, 1<<31 + 2, 1<<32 - 2, 1<<32 - 1} {
			for _, now := range [][]string{a, b, c, image(128)} {
				p.disbelieves(wantWord(number, now), api.ErrReplicaGap)
			}
			p.disbelieves(wordOf(number, strings.Repeat("\x00", 32)), api.ErrReplicaGap)
		}
	}
	unconfirmed.notes(a, api.OK)
	unconfirmed.disbelieves(wantWord(5, a), api.ErrReplicaGap)
	unconfirmed.confirms(wantWord(4, a), 0)
}

func TestX4NumbersBelowTheBase(t *testing.T) {
	p := tryPrimary(t, numbered(1))
	for n := 2; n <= 6; n++ {
		p.notes(numbered(n), api.OK)
	}
	p.confirms(wantWord(4, numbered(4)), 2)
	for n := 1; n <= 3; n++ {
		for _, other := range []int{n, 1, 4, 6} {
			p.disbelieves(wantWord(n, numbered(other)), api.ErrReplicaOld)
		}
	}
	p.confirms(wantWord(6, numbered(6)), 0)
	for n := 1; n <= 5; n++ {
		p.disbelieves(wantWord(n, numbered(n)), api.ErrReplicaOld)
	}
}

func TestX4TheBaseAgain(t *testing.T) {
	p := tryPrimary(t, numbered(1), numbered(2), numbered(3))
	p.confirms(wantWord(1, numbered(1)), 2)
	for range 3 {
		p.confirms(wantWord(1, numbered(1)), 2)
		p.disbelieves(wantWord(1, numbered(2)), api.ErrReplicaRoot)
	}
	p.confirms(wantWord(3, numbered(3)), 0)
	p.confirms(wantWord(3, numbered(3)), 0)
	p.notes(numbered(3), api.OK)
	p.confirms(wantWord(3, numbered(3)), 1)
}

func TestX4AKeptOneWithAnotherRoot(t *testing.T) {
	p := tryPrimary(t, numbered(1))
	p.disbelieves(wantWord(1, numbered(2)), api.ErrReplicaRoot)
	for n := 2; n <= 8; n++ {
		p.notes(numbered(n), api.OK)
	}
	p.confirms(wantWord(2, numbered(2)), 6)
	for n := 2; n <= 8; n++ {
		for other := 1; other <= 9; other++ {
			if other != n {
				p.disbelieves(wantWord(n, numbered(other)), api.ErrReplicaRoot)
			}
		}
		p.disbelieves(wordOf(n, strings.Repeat("\x00", 32)), api.ErrReplicaRoot)
		root := wantRoot(numbered(n))
		for _, at := range []int{0, 15, 31} {
			p.disbelieves(wordOf(n, turned(root, at, 3)), api.ErrReplicaRoot)
		}
	}
	// Another number with the same image is told by its root as well as by its own.
	p.notes(numbered(8), api.OK)
	p.confirms(wantWord(8, numbered(8)), 1)
}

// Each note of eight that is confirmed, with a base and without: those up to it are notes no more.
func TestX4HowManyNotesAreLeft(t *testing.T) {
	for _, isBased := range []bool{false, true} {
		for confirmed := 1; confirmed <= 8; confirmed++ {
			p := tryPrimary(t, numbered(1))
			first := 1
			if isBased {
				p.confirms(wantWord(1, numbered(1)), 0)
				first = 2
				p.notes(numbered(2), api.OK)
			}
			for n := first + 1; n < first+8; n++ {
				p.notes(numbered(n), api.OK)
			}
			number := first + confirmed - 1
			p.confirms(wantWord(number, numbered(number)), 8-confirmed)
			for n := number + 1; n < first+8; n++ {
				p.confirms(wantWord(n, numbered(n)), first+7-n)
			}
		}
	}
}

// Of an image that was forgotten the root is not known any more, so any is believed.
func TestX4AForgottenOne(t *testing.T) {
	for _, isBased := range []bool{false, true} {
		for number := 2; number <= 9; number++ {
			for _, root := range []string{wantRoot(numbered(number)), wantRoot(numbered(1)), strings.Repeat("\x00", 32)} {
				p := tryPrimary(t, numbered(1))
				if isBased {
					p.confirms(wantWord(1, numbered(1)), 0)
				}
				for n := 2; n <= 11; n++ {
					p.notes(numbered(n), api.OK)
				}
				if !isBased && number == 9 { // without a base it was the 9 that was left
					continue
				}
				p.confirms(wordOf(number, root), 1)
				if l := p.is.Frames(); len(l) != 1 || l[0] != wantWhole(11, numbered(11)) {
					t.Fatalf("Frames = %q", shown(l))
				}
				p.confirms(wordOfNothing, 1)
				// There is no base any more, so that no number is below it: also the old one was forgotten.
				p.confirms(wantWord(1, numbered(1)), 1)
				p.confirms(wordOf(10, root), 1)
				p.disbelieves(wantWord(12, numbered(11)), api.ErrReplicaGap)
				p.disbelieves(wantWord(11, numbered(10)), api.ErrReplicaRoot)
				p.confirms(wantWord(11, numbered(11)), 0)
			}
		}
	}
}

// Each error with those that come behind it, where there can be both.
func TestX4WhichErrorIsAnswered(t *testing.T) {
	p := tryPrimary(t, numbered(1), numbered(2), numbered(3))
	p.confirms(wantWord(2, numbered(2)), 1)
	wrongCheck := func(s string) string { return turned(s, 40, 2) }
	for _, s := range []string{wordOfNothing, wantWord(9, numbered(1)), wantWord(1, numbered(1)), wantWord(3, numbered(1)), wantWord(3, numbered(3))} {
		p.disbelieves(wrongCheck(s), api.ErrReplicaFrame)
	}
	p.disbelieves(wantWord(4, numbered(3)), api.ErrReplicaGap)
	p.disbelieves(wantWord(0, numbered(3)), api.ErrReplicaGap) // below the base, too
	p.disbelieves(wantWord(1, numbered(3)), api.ErrReplicaOld) // with another root, too
	p.disbelieves(wantWord(3, numbered(2)), api.ErrReplicaRoot)
	p.confirms(wantWord(3, numbered(3)), 0)
}

// Words are those that replicas say.
func TestX4WordsOfReplicas(t *testing.T) {
	for _, size := range []int{128, 1024} {
		p, r := tryPrimary(t, image(size), crowded(size, 1), crowded(size, 2)), replica.NewReplica()
		frames := p.is.Frames()
		word, errno := r.Take(frames[1])
		if errno != api.ErrReplicaGap {
			t.Fatalf("Take of a change ahead of all = %d", errno)
		}
		p.confirms(word, 3)
		for k, frame := range frames {
			word, errno := r.Take(frame)
			if errno != api.OK {
				t.Fatalf("Take = %d", errno)
			}
			p.confirms(word, 2-k)
		}
		word, errno = r.Take(frames[0])
		if errno != api.ErrReplicaOld {
			t.Fatalf("Take of an old one = %d", errno)
		}
		p.confirms(word, 0)
	}
}
