package replica

import (
	"slices"
	"strings"

	"strongbox/api"
	"strongbox/merkle"
)

// isSize tells whether an image may have so many sectors.
func isSize(sectors int) bool {
	return api.MinSectors <= sectors && sectors <= api.MaxSectors
}

// isImage tells whether texts are the sectors of an image.
func isImage(image []string) bool {
	if !isSize(len(image)) {
		return false
	}
	for _, s := range image {
		if len(s) != api.SectorSize {
			return false
		}
	}
	return true
}

// blankSector is one of noughts.
func blankSector() string { return strings.Repeat("\x00", api.SectorSize) }

// blankImage is the sectors of an image of noughts.
func blankImage(size int) []string { return slices.Repeat([]string{blankSector()}, size) }

// stored is an image that is kept.
type stored struct {
	sectors []string
	known   string // its root, if somebody has asked for it
}

// store keeps an image. What it has in common with another one of as many sectors, if there is one, is kept once; all else is copied, for it may be a piece of a long text, which would be kept whole.
func store(image, other []string) *stored {
	sectors := make([]string, len(image))
	for i, s := range image {
		if other != nil && other[i] == s {
			sectors[i] = other[i]
		} else {
			sectors[i] = strings.Clone(s)
		}
	}
	return &stored{sectors: sectors}
}

// root is that of its sectors. It is reckoned only when somebody asks: of most notes that are forgotten nobody does.
func (s *stored) root() string {
	if s.known == "" {
		s.known = merkle.Root(s.sectors)
	}
	return s.known
}

// others is the sectors of an image that are not as in the one ahead of it, which has as many.
func others(before, now []string) []api.Write {
	var l []api.Write
	for i, s := range now {
		if s != before[i] {
			l = append(l, api.Write{Sector: i, Bytes: s})
		}
	}
	return l
}
