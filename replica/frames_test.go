package replica_test

import (
	"encoding/hex"
	"slices"
	"strings"
	"testing"

	"strongbox/api"
	"strongbox/replica"
)

func unhex(t *testing.T, s string) string {
	t.Helper()
	b, err := hex.DecodeString(s)
	if err != nil {
		t.Fatal(err)
	}
	return string(b)
}

// Roots and checks that another program has reckoned.
const (
	noughtRoot = "a9acaf2ab2e69cb5a25799ac94be98239f64b70c10ace75c10f15063672e0f00" // of 128 sectors of noughts
	changeRoot = "bcd33e7598cdbf1581e6da7ea045792663e0b3f9654054ff680cc0aef2492dc7" // of these, but for 5 full of 1 and 9 full of 2
	lastRoot   = "59b1a7cc156e35339f89b9d784fc7c6e55dd9442eddef3547885ea84f83dffce" // of 1000, all noughts but for 999 full of 255
)

func TestX3FramesLaidByHand(t *testing.T) {
	now := image(128, 5, 1, 9, 2)
	p := tryPrimary(t, image(128), now)
	whole := unhex(t, "52460100800000000100000001"+noughtRoot+"0000"+"111767a8")
	change := unhex(t, "52460200800000000100000002"+changeRoot+"0002") + "\x00\x05" + full(1) + "\x00\x09" + full(2) + unhex(t, "2a80324c")
	if l := p.is.Frames(); !slices.Equal(l, []string{whole, change}) || len(whole) != 51 || len(change) != 567 {
		t.Errorf("Frames = %x", l)
	}
	if wantWhole(1, image(128)) != whole || wantChange(1, image(128), 2, now) != change {
		t.Error("the model says other frames")
	}
}

// Numbers and sectors whose highest bytes are not 0.
func TestX3FramesOfGreatNumbersLaidByHand(t *testing.T) {
	now := image(1000, 999, 255)
	p, _ := replica.NewPrimary(image(1000))
	noteUpTo(t, p, 2, 772, image(1000), now)
	p.Confirm(wantWord(1, image(1000))) // forgotten: the newest goes whole
	whole := unhex(t, "52460103e80000030400000304"+lastRoot+"0001"+"03e7") + full(255) + unhex(t, "4c3d5e36")
	if l := p.Frames(); !slices.Equal(l, []string{whole}) || len(whole) != 309 {
		t.Errorf("Frames = %x", l)
	}
	now = image(128, 5, 1, 9, 2)
	p, _ = replica.NewPrimary(now)
	noteUpTo(t, p, 2, 258, now, now)
	p.Confirm(wantWord(258, now))
	noteUpTo(t, p, 259, 65535, now, now)
	p.Confirm(wantWord(258, now))
	l := p.Frames()
	last, _ := readParts(l[len(l)-1])
	first, _ := readParts(l[0])
	if first.from != 258 || last.to != 65535 {
		t.Fatalf("Frames = %q", shown(l))
	}
	change := unhex(t, "5246020080000001020000ffff"+changeRoot+"0000"+"ddc32575")
	if got := changeOf(258, 65535, now).text(); got != change {
		t.Errorf("the model says %x", got)
	}
	having(t, 258, now).takes(change)
}

func TestX3WholeFrames(t *testing.T) {
	for _, size := range []int{128, 129, 1023, 1024} {
		rows := [][]string{image(size), image(size, 0, 1), image(size, size-1, 1), image(size, 0, 255, 1, 1, size/2, 7, size-2, 9, size-1, 128), crowded(size, 2), with(crowded(size, 2), 0, 0), with(crowded(size, 2), size-1, 0)}
		for k, sectors := range []int{0, 1, 1, 5, size, size - 1, size - 1} {
			p := tryPrimary(t, rows[k])
			l := p.is.Frames()
			if len(l) != 1 || len(l[0]) != 51+258*sectors {
				t.Fatalf("of %d sectors: %q", sectors, shown(l))
			}
			having(t, 1, rows[k]).answers(l[0], api.ErrReplicaOld)
		}
	}
}

// A sector all bytes of which are 0 but for one is told.
func TestX3SectorsThatAreNearlyNoughts(t *testing.T) {
	for _, at := range []int{0, 1, 127, 128, 254, 255} {
		now := image(128)
		now[77] = full(0)[:at] + "\x01" + full(0)[at+1:]
		p := tryPrimary(t, now)
		if l := p.is.Frames(); len(l) != 1 || l[0] != wholeOf(1, now, 77).text() {
			t.Errorf("the byte %d: %q", at, shown(l))
		}
		p.notes(image(128), api.OK)
		if l := p.is.Frames(); len(l) != 2 || l[1] != changeOf(1, 2, image(128), 77).text() {
			t.Errorf("the byte %d back: %q", at, shown(l))
		}
	}
}

func TestX3Changes(t *testing.T) {
	for _, size := range []int{128, 129, 1023, 1024} {
		before := crowded(size, 1)
		rows := map[int][][]string{
			0:    {before},
			1:    {with(before, 0, 3), with(before, size-1, 3), with(before, size/2, 0)},
			2:    {with(before, 0, 3, size-1, 3), with(before, 0, 0, size-1, 0)},
			size: {crowded(size, 2), image(size)},
		}
		for told, images := range rows {
			for _, now := range images {
				p := tryPrimary(t, before, now, before)
				l := p.is.Frames()
				if len(l) != 3 || len(l[1]) != 51+258*told || len(l[2]) != len(l[1]) {
					t.Fatalf("changes of %d sectors: %q", told, shown(l))
				}
				p.confirms(wantWord(1, before), 2)
				p.confirms(wantWord(2, now), 1)
			}
		}
	}
}

// The first note is a change from the base, however many were forgotten between.
func TestX3TheFirstFrameLeadsFromTheBase(t *testing.T) {
	a, b, c := image(128, 1, 1), image(128, 1, 1, 2, 2), image(128, 2, 2, 3, 3)
	p := tryPrimary(t, a, b, c)
	p.confirms(wantWord(1, a), 2)
	if l := p.is.Frames(); !slices.Equal(l, []string{changeOf(1, 2, b, 2).text(), changeOf(2, 3, c, 1, 3).text()}) {
		t.Errorf("Frames = %q", shown(l))
	}
	for range 7 {
		p.notes(b, api.OK)
	}
	if l := p.is.Frames(); !slices.Equal(l, []string{changeOf(1, 10, b, 2).text()}) {
		t.Errorf("Frames = %q", shown(l))
	}
	p.notes(c, api.OK)
	if l := p.is.Frames(); !slices.Equal(l, []string{changeOf(1, 10, b, 2).text(), changeOf(10, 11, c, 1, 3).text()}) {
		t.Errorf("Frames = %q", shown(l))
	}
}

func TestX3NoNotesNoFrames(t *testing.T) {
	p := tryPrimary(t, image(128))
	p.confirms(wantWord(1, image(128)), 0)
	if l := p.is.Frames(); len(l) != 0 {
		t.Errorf("Frames = %q", shown(l))
	}
}

// To ask for the frames changes nothing.
func TestX3FramesAreAsOften(t *testing.T) {
	p := tryPrimary(t, image(128), image(128, 1, 1), image(128, 2, 2))
	want := slices.Clone(p.is.Frames())
	for range 5 {
		if l := p.is.Frames(); !slices.Equal(l, want) {
			t.Fatalf("Frames = %q", shown(l))
		}
	}
}

func TestExamples(t *testing.T) {
	p, r := tryPrimary(t, image(128)), tryReplica(t)
	frames := p.is.Frames()
	if len(frames) != 1 || len(frames[0]) != 51 {
		t.Fatalf("Frames = %q", shown(frames))
	}
	word, errno := r.take(frames[0])
	if number, _ := r.is.Number(); len(word) != 43 || errno != api.OK || number != 1 {
		t.Fatalf("Take = %x, %d; Number = %d", word, errno, number)
	}
	p.confirms(word, 0)
	if l := p.is.Frames(); len(l) != 0 {
		t.Fatalf("Frames = %q", shown(l))
	}
	p.notes(image(128, 5, 1, 9, 1), api.OK)
	frames = p.is.Frames()
	if len(frames) != 1 || len(frames[0]) != 51+516 {
		t.Fatalf("Frames = %q", shown(frames))
	}
	word, errno = r.take(frames[0])
	doubled, second := r.take(frames[0])
	if errno != api.OK || second != api.ErrReplicaOld || doubled != word || !strings.HasPrefix(word, "RW\x01\x00\x00\x00\x02") {
		t.Fatalf("Take = %x, %d, then %x, %d", word, errno, doubled, second)
	}
	p.confirms(word, 0)
	for n := range 9 {
		p.notes(image(128, n, 8), api.OK)
	}
	frames = p.is.Frames()
	if len(frames) != 1 || frames[0] != changeOf(2, 11, image(128, 8, 8), 5, 8, 9).text() {
		t.Fatalf("Frames = %q", shown(frames))
	}
	r.takes(frames[0])
}
