package replica

import (
	"strings"

	"strongbox/api"
	"strongbox/pack"
)

// The kinds of frames.
const (
	_ = iota
	whole
	change
)

// What a frame begins with; the bytes of one of its sectors, with the number; of a frame without sectors; of the longest one.
const (
	frameLetters = "RF"
	partSize     = countWidth + api.SectorSize
	frameSize    = len(frameLetters) + kindWidth + countWidth + 2*numberWidth + api.DigestSize + countWidth + checkSize
	longestFrame = frameSize + api.MaxSectors*partSize
)

// frame is one, taken apart: of an image of so many sectors and this root, the sectors by which it is told.
type frame struct {
	kind, size, from, to int
	root                 string
	sectors              []api.Write
}

// wholeFrame tells an image by itself.
func wholeFrame(number int, image *stored) frame {
	size := len(image.sectors)
	return frame{whole, size, number, number, image.root(), others(blankImage(size), image.sectors)}
}

// changeFrame tells an image by an earlier one.
func changeFrame(from int, before *stored, to int, image *stored) frame {
	return frame{change, len(image.sectors), from, to, image.root(), others(before.sectors, image.sectors)}
}

// text is a frame as bytes.
func (f frame) text() string {
	w := pack.NewWriter()
	w.Raw(frameLetters)
	w.Num(kindWidth, f.kind)
	w.Num(countWidth, f.size)
	w.Num(numberWidth, f.from, f.to)
	w.Raw(f.root)
	w.Num(countWidth, len(f.sectors))
	for _, s := range f.sectors {
		w.Num(countWidth, s.Sector)
		w.Raw(s.Bytes)
	}
	return checked(w)
}

// readFrame takes a frame apart, if it is one.
func readFrame(s string) (frame, bool) {
	if len(s) < frameSize || len(s) > longestFrame || !isChecked(s) {
		return frame{}, false
	}
	r := pack.NewReader(s[:len(s)-checkSize])
	letters := r.Raw(len(frameLetters))
	f := frame{kind: r.Num(kindWidth), size: r.Num(countWidth), from: r.Num(numberWidth), to: r.Num(numberWidth), root: r.Raw(api.DigestSize)}
	count := r.Num(countWidth)
	if letters != frameLetters || len(s) != frameSize+count*partSize {
		return frame{}, false
	}
	for range count {
		f.sectors = append(f.sectors, api.Write{Sector: r.Num(countWidth), Bytes: r.Raw(api.SectorSize)})
	}
	if !f.mayBe() {
		return frame{}, false
	}
	return f, true
}

// mayBe tells whether a frame of the right length says nothing that none may.
func (f frame) mayBe() bool {
	return isSize(f.size) && f.mayLead() && f.mayTell()
}

// mayLead tells whether its kind may lead from the one image to the other.
func (f frame) mayLead() bool {
	if f.from == noImage || f.to > lastImage {
		return false
	}
	switch f.kind {
	case whole:
		return f.from == f.to
	case change:
		return f.from < f.to
	}
	return false
}

// mayTell tells whether its sectors rise and are the image's, and none is told that need not be.
func (f frame) mayTell() bool {
	blank := blankSector()
	next := 0
	for _, s := range f.sectors {
		if s.Sector < next || s.Sector >= f.size || f.kind == whole && s.Bytes == blank {
			return false
		}
		next = s.Sector + 1
	}
	return true
}

// laidOn is the sectors of the image that a frame makes: a change of those of the image ahead of it, which has as many; a whole one of noughts.
func (f frame) laidOn(before []string) []string {
	made := blankImage(f.size)
	if f.kind == change {
		copy(made, before)
	}
	for _, s := range f.sectors {
		made[s.Sector] = strings.Clone(s.Bytes) // else the whole frame would be kept
	}
	return made
}
