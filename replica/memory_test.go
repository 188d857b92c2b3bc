package replica_test

import (
	"fmt"
	"slices"
	"sync"
	"testing"
	"unsafe"

	"strongbox/api"
	"strongbox/replica"
)

// roomy is a list with spare room, in which something else stands.
func roomy(l []string) []string {
	return append(slices.Clone(l), "spare", "spare", "spare")[:len(l)]
}

// stays calls something, and tells whether a list, and what stands in its spare room, are as they were; then it writes over all of it.
func stays(t *testing.T, what string, l []string, call func()) {
	t.Helper()
	whole := l[:cap(l)]
	were := slices.Clone(whole)
	call()
	if !slices.Equal(whole, were) {
		t.Errorf("%s writes into the list", what)
	}
	for i := range whole {
		whole[i] = "written over"
	}
}

func TestR2ListsAreNeitherWrittenIntoNorKept(t *testing.T) {
	a, b, c := image(128, 1, 1), image(128, 1, 1, 2, 2), crowded(128, 3)
	handed := roomy(a)
	var p *replica.Primary
	stays(t, "NewPrimary", handed, func() { p, _ = replica.NewPrimary(handed) })
	for _, now := range [][]string{b, c, c, a} {
		handed := roomy(now)
		stays(t, "Note", handed, func() { p.Note(handed) })
	}
	want := []string{wantWhole(1, a), wantChange(1, a, 2, b), wantChange(2, b, 3, c), wantChange(3, c, 4, c), wantChange(4, c, 5, a)}
	if l := p.Frames(); !slices.Equal(l, want) {
		t.Errorf("a list is kept: %q", shown(l))
	}
	for _, now := range noImages() {
		handed := roomy(now)
		stays(t, "NewPrimary", handed, func() { replica.NewPrimary(handed) })
		handed = roomy(now)
		stays(t, "Note", handed, func() { p.Note(handed) })
	}
	if l := p.Frames(); !slices.Equal(l, want) {
		t.Errorf("a list that was refused is kept: %q", shown(l))
	}
}

// lent is a text in memory that may be written over once it was handed in: who keeps it will say something else then.
type lent []byte

func lend(s string) lent { return lent(s) }

func (l lent) text() string { return unsafe.String(unsafe.SliceData(l), len(l)) }

// pieces is an image all sectors of which are pieces of one lent text.
func pieces(now []string) ([]string, lent) {
	var l lent
	for _, s := range now {
		l = append(l, s...)
	}
	var cut []string
	for i := range now {
		cut = append(cut, l.text()[256*i:256*(i+1)])
	}
	return cut, l
}

func TestR2TextsOfImagesAreNotKept(t *testing.T) {
	a, b := crowded(128, 1), with(crowded(128, 1), 5, 0, 9, 9)
	cut, l := pieces(a)
	p, _ := replica.NewPrimary(cut)
	clear(l)
	for _, now := range [][]string{b, a, a} {
		cut, l := pieces(now)
		p.Note(cut)
		clear(l)
	}
	want := []string{wantWhole(1, a), wantChange(1, a, 2, b), wantChange(2, b, 3, a), wantChange(3, a, 4, a)}
	if got := p.Frames(); !slices.Equal(got, want) {
		t.Errorf("a text is kept: %q", shown(got))
	}
	word := lend(wantWord(3, a))
	if n, errno := p.Confirm(word.text()); n != 1 || errno != api.OK {
		t.Errorf("Confirm = %d, %d", n, errno)
	}
	clear(word)
	if n, errno := p.Confirm(wantWord(3, a)); n != 1 || errno != api.OK {
		t.Errorf("Confirm again = %d, %d", n, errno)
	}
}

func TestR2FramesAreNotKept(t *testing.T) {
	a, b := crowded(128, 1), with(crowded(128, 1), 5, 0, 9, 9)
	r := replica.NewReplica()
	for k, s := range []string{wantWhole(1, a), wantChange(1, a, 2, b), wantChange(2, b, 3, b)} {
		l := lend(s)
		word, errno := r.Take(l.text())
		if string(l) != s {
			t.Error("the frame is written into")
		}
		clear(l)
		now := [][]string{a, b, b}[k]
		if got, _ := r.Image(); errno != api.OK || word != wantWord(k+1, now) || !slices.Equal(got, now) {
			t.Fatalf("the number %d is kept as pieces of its frame", k+1)
		}
		if word, errno := r.Take(s); word != wantWord(k+1, now) || errno != api.ErrReplicaOld {
			t.Fatalf("the root of the number %d is kept as a piece of its frame", k+1)
		}
	}
}

func TestR2WhatComesOutIsNewMemory(t *testing.T) {
	a, b := image(128, 1, 1), image(128, 2, 2)
	p := tryPrimary(t, a, b)
	l := p.is.Frames()
	for i := range l[:cap(l)] {
		l[:cap(l)][i] = "written over"
	}
	p.stands("a list of frames that was written over")
	r := having(t, 1, a)
	one, _ := r.is.Image()
	d := promoted(t, r)
	other, _ := r.is.Image()
	for i := range one[:cap(one)] {
		one[:cap(one)][i] = "written over"
	}
	r.stands("an image that was written over")
	if !slices.Equal(other, a) || !slices.Equal(d.Image(), a) {
		t.Error("two images share memory")
	}
	r.takes(wantChange(1, a, 2, b))
	if !slices.Equal(other, a) || !slices.Equal(d.Image(), a) {
		t.Error("an image that came out is written into")
	}
}

// Many primaries and replicas at once, each pair in a goroutine of its own, with images and frames in common.
func TestR2ManyAtOnce(t *testing.T) {
	a, b := crowded(128, 1), with(crowded(128, 1), 3, 3)
	whole, change := wantWhole(1, a), wantChange(1, a, 2, b)
	var group sync.WaitGroup
	for k := range 16 {
		group.Go(func() {
			p, _ := replica.NewPrimary(a)
			r := replica.NewReplica()
			p.Note(b)
			own := image(128, k, 1+k)
			p.Note(own)
			want := []string{whole, change, wantChange(2, b, 3, own)}
			if l := p.Frames(); !slices.Equal(l, want) {
				t.Errorf("the pair %d says %q", k, shown(l))
			}
			for n, s := range want {
				word, errno := r.Take(s)
				left, confirmed := p.Confirm(word)
				if errno != api.OK || left != 2-n || confirmed != api.OK {
					t.Errorf("the pair %d: Take = %d, Confirm = %d, %d", k, errno, left, confirmed)
				}
			}
			if l, errno := r.Image(); !slices.Equal(l, own) || errno != api.OK {
				t.Errorf("the pair %d has another image", k)
			}
		})
	}
	group.Wait()
}

// One primary's calls, and one replica's, change nothing of others.
func TestR2OthersAreNotDisturbed(t *testing.T) {
	a, b := image(128, 1, 1), image(128, 2, 2)
	one, other := tryPrimary(t, a, b), tryPrimary(t, a, b)
	r, s := tryReplica(t), tryReplica(t)
	for k, frame := range one.is.Frames() {
		r.takes(frame)
		one.confirms(r.model.word(), 1-k)
		other.stands(fmt.Sprint("a Confirm of another one's number ", k+1))
		s.stands("another one's Take")
	}
	one.notes(a, api.OK)
	other.confirms(wordOfNothing, 2)
	s.takes(wantWhole(7, b))
	r.stands("another one's Take")
}
