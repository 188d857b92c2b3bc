package replica

import (
	"math/rand"
	"slices"
	"strings"
	"testing"
	"unsafe"

	"strongbox/api"
)

// numbered is an image that no other number has.
func numbered(n int) []string {
	image := blankImage(api.MinSectors)
	image[n%api.MinSectors] = strings.Repeat(string([]byte{byte(1 + n/api.MinSectors)}), api.SectorSize)
	return image
}

// wordFor is the word of a replica that has an image.
func wordFor(n int) string {
	return word{something, n, (&stored{sectors: numbered(n)}).root()}.text()
}

// The base and the notes are kept, and nothing else.
func TestX4WhatIsConfirmedOrForgottenIsDeleted(t *testing.T) {
	r := rand.New(rand.NewSource(1))
	p, _ := NewPrimary(numbered(1))
	notes, base := []int{1}, 0
	for n := 2; n <= 400; n++ {
		if p.Note(numbered(n)) != api.OK {
			t.Fatal("Note")
		}
		if notes = append(notes, n); len(notes) > 8 {
			notes = []int{n}
		}
		if r.Intn(5) == 0 {
			base = notes[r.Intn(len(notes))]
			notes = slices.DeleteFunc(notes, func(k int) bool { return k <= base })
			if left, errno := p.Confirm(wordFor(base)); left != len(notes) || errno != api.OK {
				t.Fatalf("Confirm of %d = %d, %d", base, left, errno)
			}
		} else if forgotten := base + 1; r.Intn(10) == 0 && forgotten < notes[0] {
			base, notes = 0, notes[len(notes)-1:]
			if left, errno := p.Confirm(wordFor(forgotten)); left != 1 || errno != api.OK {
				t.Fatalf("Confirm of %d = %d, %d", forgotten, left, errno)
			}
		}
		want := slices.Clone(notes)
		if base != 0 {
			want = append([]int{base}, notes...)
		}
		if p.base != base || len(p.kept) != len(want) {
			t.Fatalf("behind %d: the base %d and %d images, want %d and %v", n, p.base, len(p.kept), base, want)
		}
		for _, k := range want {
			if p.kept[k] == nil || !slices.Equal(p.kept[k].sectors, numbered(k)) {
				t.Fatalf("behind %d: the number %d is not kept", n, k)
			}
		}
	}
}

// Sectors that an image has in common with the one ahead of it stand in memory once.
func TestNotesHaveInCommonWhatIsTheSame(t *testing.T) {
	p, _ := NewPrimary(numbered(1))
	for n := 2; n <= 5; n++ {
		p.Note(numbered(n))
		for i, s := range p.kept[n].sectors {
			before := p.kept[n-1].sectors[i]
			if s == before && unsafe.StringData(s) != unsafe.StringData(before) {
				t.Fatalf("the sector %d of the number %d is kept twice", i, n)
			}
		}
	}
}

// What nobody has made of a first image has none, and says so.
func TestR1NothingPanicsOfZeroValues(t *testing.T) {
	var p Primary
	if errno := p.Note(numbered(1)); errno != api.ErrReplicaImage {
		t.Errorf("Note = %d", errno)
	}
	if l := p.Frames(); len(l) != 0 {
		t.Errorf("%d frames", len(l))
	}
	if left, errno := p.Confirm(wordFor(1)); left != 0 || errno != api.ErrReplicaGap {
		t.Errorf("Confirm = %d, %d", left, errno)
	}
	if left, errno := p.Confirm(wordOfNothing().text()); left != 0 || errno != api.OK {
		t.Errorf("Confirm of nothing = %d, %d", left, errno)
	}
	var r Replica
	if _, errno := r.Number(); errno != api.ErrReplicaNone {
		t.Errorf("Number = %d", errno)
	}
}

// Whatever bytes are handed in, with a right check or not.
func TestR1TextsByChance(t *testing.T) {
	r := rand.New(rand.NewSource(2))
	p, _ := NewPrimary(numbered(1))
	replica := NewReplica()
	p.Note(numbered(2))
	for range 3000 {
		b := make([]byte, r.Intn(700))
		if r.Intn(2) == 0 {
			b = make([]byte, []int{39, 47, 47 + 258, 47 + 516}[r.Intn(4)])
		}
		r.Read(b)
		copy(b, []string{"RF\x01", "RF\x02", "RW\x00", "RW\x01", "x"}[r.Intn(5)])
		if len(b) > 47 && r.Intn(2) == 0 {
			copy(b[3:], "\x00\x80\x00\x00\x00\x01\x00\x00\x00\x01")
			copy(b[45:], []byte{0, byte((len(b) - 47) / 258)})
		}
		s := string(b)
		if r.Intn(4) > 0 {
			s += checkOf(s)
		}
		if word, errno := replica.Take(s); errno == api.OK || errno == api.ErrReplicaOld {
			t.Fatalf("Take(%x) = %x, %d", s, word, errno)
		}
		p.Confirm(s)
	}
	if len(p.Frames()) != 2 {
		t.Error("something was confirmed")
	}
}
