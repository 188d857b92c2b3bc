package replica_test

import (
	"slices"
	"strings"
	"testing"

	"strongbox/api"
	"strongbox/replica"
)

// noImages is lists that are none, of sizes around those that there may be, and with sectors of other lengths at their edges.
func noImages() [][]string {
	l := [][]string{nil, {}, {full(1)}, image(127), image(1025), crowded(127, 0), crowded(1025, 0), image(2048), make([]string, 128), image(1024)[:127]}
	for _, size := range []int{128, 300, 1024} {
		for _, at := range []int{0, 1, size / 2, size - 1} {
			for _, s := range []string{"", "x", full(1)[:255], full(1) + "x", full(1) + full(1)} {
				now := image(size)
				now[at] = s
				l = append(l, now)
			}
		}
	}
	return l
}

func TestX1NewPrimaryOfNoImage(t *testing.T) {
	for k, now := range noImages() {
		if p, errno := replica.NewPrimary(now); p != nil || errno != api.ErrReplicaImage {
			t.Errorf("row %d: NewPrimary of %d texts = %v, %d", k, len(now), p, errno)
		}
	}
}

func TestX1NewPrimaryHasOneNoteAndNoBase(t *testing.T) {
	for _, size := range []int{128, 129, 255, 256, 257, 512, 1023, 1024} {
		for _, now := range [][]string{image(size), image(size, 0, 1), image(size, size-1, 255), crowded(size, 1)} {
			p := tryPrimary(t, now)
			if l := p.is.Frames(); len(l) != 1 || l[0] != wantWhole(1, now) {
				t.Fatalf("Frames = %q", shown(l))
			}
			p.confirms(wordOfNothing, 1)
			p.disbelieves(wantWord(2, now), api.ErrReplicaGap)
			p.confirms(wantWord(1, now), 0)
		}
	}
}

// A list's spare room is none of its sectors.
func TestX1SpareRoomIsNoPartOfAnImage(t *testing.T) {
	room := crowded(1025, 3)
	if p, errno := replica.NewPrimary(room[:127]); p != nil || errno != api.ErrReplicaImage {
		t.Errorf("127 of 1025: %d", errno)
	}
	p := tryPrimary(t, room[:128])
	p.notes(room[:127], api.ErrReplicaImage)
	p.notes(room[:129], api.ErrReplicaImage)
	p.notes(room[1:129], api.OK)
	tryPrimary(t, room[:1024]).notes(room[1:], api.OK)
}

func TestX2NoteOfNoImage(t *testing.T) {
	p := tryPrimary(t, image(128))
	for _, now := range noImages() {
		p.notes(now, api.ErrReplicaImage)
	}
	p.notes(crowded(128, 1), api.OK)
	for _, now := range noImages() {
		p.notes(now, api.ErrReplicaImage)
	}
	p.confirms(wantWord(2, crowded(128, 1)), 0)
	for _, now := range noImages() {
		p.notes(now, api.ErrReplicaImage)
	}
	p.notes(image(128), api.OK)
	p.confirms(wantWord(3, image(128)), 0)
}

func TestX2NoteOfAnotherNumberOfSectors(t *testing.T) {
	sizes := []int{128, 129, 256, 300, 1023, 1024}
	for _, size := range sizes {
		p := tryPrimary(t, crowded(size, 0))
		for _, other := range sizes {
			want := api.ErrReplicaImage
			if other == size {
				want = api.OK
			}
			p.notes(image(other), want)
		}
		p.confirms(wantWord(2, image(size)), 0)
		for _, other := range sizes {
			if other != size {
				p.notes(image(other), api.ErrReplicaImage)
			}
		}
	}
}

func TestX2TheSameImageAgain(t *testing.T) {
	now := image(128, 3, 3)
	p := tryPrimary(t, now, now, now)
	if l := p.is.Frames(); len(l) != 3 || l[1] != changeOf(1, 2, now).text() || len(l[2]) != 51 {
		t.Errorf("Frames = %q", shown(l))
	}
	p.confirms(wantWord(2, now), 1)
	p.notes(slices.Clone(now), api.OK)
	p.confirms(wantWord(4, now), 0)
}

// numbered is an image that no other number has.
func numbered(n int) []string { return image(128, n%128, 1+n/128, 127, 7) }

// tellsOnly is whether a primary says frames to images of these numbers.
func (p triedPrimary) tellsOnly(numbers ...int) {
	p.t.Helper()
	var got []int
	for _, s := range p.is.Frames() {
		f, _ := readParts(s)
		got = append(got, f.to)
	}
	if !slices.Equal(got, numbers) {
		p.t.Fatalf("Frames lead to %v, want %v", got, numbers)
	}
}

func TestX2NotesThatAreNotConfirmedWithoutABase(t *testing.T) {
	p := tryPrimary(t, numbered(1))
	for n := 2; n <= 8; n++ {
		p.notes(numbered(n), api.OK)
	}
	p.tellsOnly(1, 2, 3, 4, 5, 6, 7, 8)
	p.notes(numbered(9), api.OK)
	p.tellsOnly(9)
	if l := p.is.Frames(); l[0] != wantWhole(9, numbered(9)) {
		t.Errorf("it is not whole: %q", shown(l))
	}
	p.notes(numbered(10), api.OK)
	p.tellsOnly(9, 10)
	for n := 11; n <= 16; n++ {
		p.notes(numbered(n), api.OK)
	}
	p.tellsOnly(9, 10, 11, 12, 13, 14, 15, 16)
	p.notes(numbered(17), api.OK)
	p.tellsOnly(17)
}

func TestX2NotesThatAreNotConfirmedWithABase(t *testing.T) {
	p := tryPrimary(t, numbered(1))
	p.confirms(wantWord(1, numbered(1)), 0)
	for n := 2; n <= 9; n++ {
		p.notes(numbered(n), api.OK)
	}
	p.tellsOnly(2, 3, 4, 5, 6, 7, 8, 9)
	p.notes(numbered(10), api.OK)
	p.tellsOnly(10)
	if l := p.is.Frames(); l[0] != wantChange(1, numbered(1), 10, numbered(10)) {
		t.Errorf("it is no change from the base: %q", shown(l))
	}
	p.notes(numbered(11), api.OK)
	p.tellsOnly(10, 11)
	p.disbelieves(wordOfNothing, api.ErrReplicaOld)
	p.confirms(wantWord(1, numbered(1)), 2)
	for n := 12; n <= 17; n++ {
		p.notes(numbered(n), api.OK)
	}
	p.tellsOnly(10, 11, 12, 13, 14, 15, 16, 17)
	p.notes(numbered(18), api.OK)
	p.tellsOnly(18)
	p.confirms(wantWord(1, numbered(1)), 1)
}

// How many notes there are is counted from what was confirmed: of eight, some of which are confirmed, as many more may be noted.
func TestX2NotesBehindAConfirm(t *testing.T) {
	for confirmed := 1; confirmed <= 8; confirmed++ {
		p := tryPrimary(t, numbered(1))
		for n := 2; n <= 8; n++ {
			p.notes(numbered(n), api.OK)
		}
		p.confirms(wantWord(confirmed, numbered(confirmed)), 8-confirmed)
		for n := 9; n <= 8+confirmed; n++ {
			p.notes(numbered(n), api.OK)
		}
		if l := p.is.Frames(); len(l) != 8 {
			t.Fatalf("%d frames behind a Confirm of %d", len(l), confirmed)
		}
		p.notes(numbered(9+confirmed), api.OK)
		p.tellsOnly(9 + confirmed)
	}
}

// A Confirm of a forgotten image leaves one note.
func TestX2NotesBehindAConfirmOfAForgottenOne(t *testing.T) {
	p := tryPrimary(t, numbered(1))
	for n := 2; n <= 12; n++ {
		p.notes(numbered(n), api.OK)
	}
	p.confirms(wantWord(5, numbered(5)), 1)
	for n := 13; n <= 19; n++ {
		p.notes(numbered(n), api.OK)
	}
	p.tellsOnly(12, 13, 14, 15, 16, 17, 18, 19)
	p.notes(numbered(20), api.OK)
	p.tellsOnly(20)
}

// noteUpTo notes images up to a number, without a look at any but the last ones.
func noteUpTo(t *testing.T, p *replica.Primary, from, to int, a, b []string) {
	t.Helper()
	for n := from; n <= to; n++ {
		now := a
		if n%2 == 0 {
			now = b
		}
		if errno := p.Note(now); errno != api.OK {
			t.Fatalf("Note of the number %d = %d", n, errno)
		}
	}
}

func TestX2TheLastNumber(t *testing.T) {
	a, b := image(128, 5, 1), image(128, 5, 2, 9, 9)
	p, _ := replica.NewPrimary(a)
	noteUpTo(t, p, 2, 65534, a, b)
	p.Confirm(wantWord(65534, b))
	if l := p.Frames(); len(l) != 0 {
		t.Fatalf("Frames = %q", shown(l))
	}
	noteUpTo(t, p, 65535, 65535, a, b)
	last := []string{wantChange(65534, b, 65535, a)}
	if l := p.Frames(); !slices.Equal(l, last) {
		t.Fatalf("Frames = %q", shown(l))
	}
	for range 3 {
		if errno := p.Note(b); errno != api.ErrArg {
			t.Errorf("Note of one more = %d", errno)
		}
		// What is no image is told first.
		for _, now := range [][]string{nil, image(129), b[1:], append(slices.Clone(b[1:]), strings.Repeat("x", 255))} {
			if errno := p.Note(now); errno != api.ErrReplicaImage {
				t.Errorf("Note of no image = %d", errno)
			}
		}
		if l := p.Frames(); !slices.Equal(l, last) {
			t.Errorf("what was refused is noted: %q", shown(l))
		}
	}
	r := having(t, 65534, b)
	r.takes(last[0])
	if n, errno := p.Confirm(wantWord(65536, b)); n != 0 || errno != api.ErrReplicaGap {
		t.Errorf("Confirm of 65536 = %d, %d", n, errno)
	}
	if n, errno := p.Confirm(r.model.word()); n != 0 || errno != api.OK {
		t.Errorf("Confirm of 65535 = %d, %d", n, errno)
	}
	if errno := p.Note(b); errno != api.ErrArg || len(p.Frames()) != 0 {
		t.Errorf("Note behind all that = %d", errno)
	}
}
