package audit

import (
	"strongbox/api"
	"strongbox/seal"
)

// lookers is how many look at places at the same time: more than there are processors are of no use.
const lookers = 8

// tally is who owns each place, what is mapped to what stands there, and what there is in all.
type tally struct {
	*view
	parts
	owned  []bool
	mapped []int // how many blocks, to the digest at each place
	totals api.Totals
}

// newTally is one in which what stands in the index owns its places, ahead of all volumes.
func newTally(v *view, p parts) *tally {
	count := v.layout.Count
	t := &tally{view: v, parts: p, owned: make([]bool, count), mapped: make([]int, count)}
	t.totals.Capacity = v.layout.Capacity
	for place, s := range p.shelf.slots {
		if s.stands() {
			t.owned[place] = true
			t.totals.Chunks++
		}
	}
	return t
}

// goOver goes over all volumes, one after the other: who comes first owns a place.
func (t *tally) goOver() {
	for k, r := range t.roll {
		tenant, charge := k+1, 0
		for _, v := range r.volumes {
			charge += t.volume(tenant, v)
		}
		if charge != r.charge {
			t.notes.add(api.FindCharge, tenant)
		}
		t.totals.Charged += r.charge
		t.totals.Promised += r.quota
	}
}

// volume goes over a volume; what it is charged: its pages, and the blocks that are mapped.
func (t *tally) volume(tenant int, v api.Volume) int {
	number := rootFactor*tenant + v.Number
	root, isRight := t.rootAt(v.Root, number)
	if !isRight || !t.owns(v.Root) {
		t.notes.add(api.FindVolume, t.layout.Data+v.Root)
		return 0
	}
	charge := 1
	for l, n := range root {
		if n > 0 {
			charge += t.leaf(n-1, leafFactor*number+l)
		}
	}
	return charge
}

// leaf goes over a leaf; what it is charged, likewise.
func (t *tally) leaf(place, number int) int {
	digests, isRight := t.leafAt(place, number)
	if !isRight || !t.owns(place) {
		t.notes.add(api.FindVolume, t.layout.Data+place)
		return 0
	}
	for _, digest := range digests {
		at, stands := t.shelf.places[digest]
		if stands {
			t.mapped[at]++
		} else {
			t.notes.add(api.FindCount, t.layout.Data+place)
		}
	}
	t.totals.Mapped += len(digests)
	return 1 + len(digests)
}

// owns tells whether the place of a right root or leaf may be its own, which it is then from now on.
func (t *tally) owns(place int) bool {
	if t.marks[place] == free || t.owned[place] {
		return false
	}
	t.owned[place] = true
	t.totals.Pages++
	return true
}

// lookAtPlaces looks at all places, when all owners are known. Each looker takes every so-many-th, for what is taken lies at the front.
func (t *tally) lookAtPlaces() {
	var all []func()
	for first := range lookers {
		all = append(all, func() {
			for place := first; place < t.layout.Count; place += lookers {
				t.lookAt(place)
			}
		})
	}
	together(all...)
}

// lookAt looks at a place: whether it is lost, and whether what stands there is as the index tells.
func (t *tally) lookAt(place int) {
	sector := t.layout.Data + place
	if t.marks[place] == taken && !t.owned[place] {
		t.notes.add(api.FindLost, sector)
	}
	s := t.shelf.slots[place]
	if !s.stands() {
		return
	}
	if s.times != t.mapped[place] {
		t.notes.add(api.FindCount, sector)
	}
	// It is not refused: the sector has its length.
	digest, _ := seal.Digest(t.image[sector])
	if t.marks[place] == free || digest != s.digest {
		t.notes.add(api.FindChunk, sector)
	}
}
