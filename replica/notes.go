package replica

import (
	"maps"
	"slices"

	"strongbox/api"
)

// add keeps an image as the next note.
func (p *Primary) add(image *stored) {
	p.newest++
	p.kept[p.newest] = image
}

// notes is the numbers of the notes, rising.
func (p *Primary) notes() []int {
	numbers := slices.Sorted(maps.Keys(p.kept))
	if p.base != noImage {
		return numbers[1:] // the base has the least one
	}
	return numbers
}

// frame is what leads from an image that is kept, or from none, to a later one.
func (p *Primary) frame(from, to int) frame {
	if from == noImage {
		return wholeFrame(to, p.kept[to])
	}
	return changeFrame(from, p.kept[from], to, p.kept[to])
}

// believe does what a word asks for.
func (p *Primary) believe(w word) api.Errno {
	if w.kind == nothing {
		if p.base != noImage {
			return api.ErrReplicaOld
		}
		return api.OK
	}
	if w.number == noImage || w.number > p.newest {
		return api.ErrReplicaGap
	}
	if w.number < p.base {
		return api.ErrReplicaOld
	}
	image, isKept := p.kept[w.number]
	if !isKept {
		// The replica has an image from which no change can be said any more: only a whole one leads on.
		p.base = noImage
		p.forget(noImage, p.newest)
		return api.OK
	}
	if image.root() != w.root {
		return api.ErrReplicaRoot
	}
	p.base = w.number
	p.forget(noImage, p.base)
	return api.OK
}

// forget keeps no image any more whose number lies between two others.
func (p *Primary) forget(above, below int) {
	for number := range p.kept {
		if above < number && number < below {
			delete(p.kept, number)
		}
	}
}
