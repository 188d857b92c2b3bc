package wire

import (
	"strongbox/api"
	"strongbox/pack"
)

// countSize is the bytes of how many volumes there are.
const countSize = 1

func (places) size() int { return api.Places * byteSize }

func (places) lay(w *pack.Writer, p part) bool {
	if len(p.list) != api.Places {
		return false
	}
	for _, n := range p.list {
		if n < 0 || n > maxByte {
			return false
		}
	}
	w.Num(byteSize, p.list...)
	return true
}

func (places) take(r *pack.Reader) (part, bool) {
	return part{list: takeBytes(r, api.Places)}, true
}

func (volumes) size() int { return countSize + api.MaxVolumes*byteSize }

func (volumes) lay(w *pack.Writer, p part) bool {
	if len(p.list) > api.MaxVolumes || !areVolumes(p.list) {
		return false
	}
	w.Num(countSize, len(p.list))
	w.Num(byteSize, p.list...)
	w.Raw(noughts(byteSize * (api.MaxVolumes - len(p.list))))
	return true
}

func (volumes) take(r *pack.Reader) (part, bool) {
	count := r.Num(countSize)
	if count > api.MaxVolumes {
		return part{}, false
	}
	p := part{list: takeBytes(r, count)}
	left := byteSize * (api.MaxVolumes - count)
	return p, r.Raw(left) == noughts(left) && areVolumes(p.list)
}

// takeBytes takes so many numbers of a byte each, into memory of their own.
func takeBytes(r *pack.Reader, count int) []int {
	var l []int
	for range count {
		l = append(l, r.Num(byteSize))
	}
	return l
}

// areVolumes tells whether all of a list are numbers of volumes, and rise.
func areVolumes(l []int) bool {
	of := allFields().volume
	for k, n := range l {
		if !of.mayBe(n) || k > 0 && n <= l[k-1] {
			return false
		}
	}
	return true
}
