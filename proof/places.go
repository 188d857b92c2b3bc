package proof

import (
	"strongbox/api"
	"strongbox/hash"
)

// info stands ahead of the digest in what the places are derived of.
const info = "places"

// placeArray is the places of a challenge, rising. An array and no slice, so that what is kept and what is told are never one memory.
type placeArray [api.Places]int

// placesOf are the places of a draw and a digest, if these have their lengths.
func placesOf(draw, digest string) (placeArray, api.Errno) {
	if len(draw) != api.DrawSize {
		return placeArray{}, api.ErrProofDraw
	}
	if len(digest) != api.DigestSize {
		return placeArray{}, api.ErrArg
	}
	derive := func(n int) string {
		derived, _ := hash.Derive(draw, info+digest, n)
		return derived
	}
	return choose(derive), api.OK
}

// choose makes places of derived bytes, of which n are told by derive(n).
// It asks for few of them first: nearly always they are enough, and all of them take a hundred times as long. More bytes begin with the few, whose places came already and are passed over.
func choose(derive func(n int) string) placeArray {
	var c choice
	c.addBytes(derive(api.DigestSize))
	if !c.isFull() {
		c.addBytes(derive(api.MaxDerive))
	}
	for place := range api.SectorSize {
		c.add(place)
	}
	return c.rising()
}

// choice is which of a chunk's bytes are chosen, and how many they are.
type choice struct {
	chosen [api.SectorSize]bool
	count  int
}

func (c *choice) isFull() bool { return c.count == api.Places }

// add chooses a place, unless it came already or there are enough.
func (c *choice) add(place int) {
	if c.isFull() || c.chosen[place] {
		return
	}
	c.chosen[place] = true
	c.count++
}

// addBytes adds the bytes of a text, from the front, each as a place.
func (c *choice) addBytes(s string) {
	for i := range len(s) {
		c.add(int(s[i]))
	}
}

// rising is what a full choice has.
func (c *choice) rising() placeArray {
	var l placeArray
	next := 0
	for place, isChosen := range c.chosen {
		if isChosen {
			l[next] = place
			next++
		}
	}
	return l
}
