package wire

import (
	"strongbox/api"
	"strongbox/pack"
)

// The bytes of fields that have no name in package api for it, and the most that numbers may be.
const (
	byteSize   = 1
	amountSize = 2 // of a quota and of a charge
	nonceSize  = 4
	maxByte    = 1<<(8*byteSize) - 1
	maxAmount  = 1<<(8*amountSize) - 1
	maxNonce   = 1<<(8*nonceSize) - 1
)

// part is what a request or a reply has of a field: a number, a text or a list, and of the others nothing.
type part struct {
	number int
	text   string
	list   []int
}

// field is how a part stands in a frame.
type field interface {
	// size is how many bytes it has, whatever it says.
	size() int
	// lay lays it down; false, and nothing is laid down, if it may not be what it is.
	lay(w *pack.Writer, p part) bool
	// take takes it, whose bytes must be there; false, if it may not be what it is.
	take(r *pack.Reader) (part, bool)
}

// The fields: each is a type of its own, so that it is known which part belongs to it.
type (
	tenant  struct{ number }
	quota   struct{ number }
	charge  struct{ number }
	volume  struct{ number }
	block   struct{ number }
	nonce   struct{ number }
	digest  struct{ text }
	wrapped struct{ text }
	sample  struct{ text }
	data    struct{ text }
	places  struct{}
	volumes struct{}
)

// fieldTable has each field.
type fieldTable struct {
	tenant  tenant
	quota   quota
	charge  charge
	volume  volume
	block   block
	nonce   nonce
	digest  digest
	wrapped wrapped
	sample  sample
	data    data
	places  places
	volumes volumes
}

// allFields is that table.
func allFields() fieldTable {
	return fieldTable{
		tenant:  tenant{number{bytes: byteSize, least: 1, most: api.MaxTenants}},
		quota:   quota{number{bytes: amountSize, most: maxAmount}},
		charge:  charge{number{bytes: amountSize, most: maxAmount}},
		volume:  volume{number{bytes: byteSize, least: 1, most: api.MaxVolume}},
		block:   block{number{bytes: byteSize, most: maxByte}},
		nonce:   nonce{number{bytes: nonceSize, most: maxNonce}},
		digest:  digest{text{bytes: api.DigestSize}},
		wrapped: wrapped{text{bytes: api.WrappedSize}},
		// A sample has a byte for each place that was asked for.
		sample: sample{text{bytes: api.Places}},
		data:   data{text{bytes: api.SectorSize}},
	}
}

// number is a field that is a number, from least to most.
type number struct {
	bytes, least, most int
}

func (f number) size() int { return f.bytes }

func (f number) lay(w *pack.Writer, p part) bool {
	if !f.mayBe(p.number) {
		return false
	}
	w.Num(f.bytes, p.number)
	return true
}

func (f number) take(r *pack.Reader) (part, bool) {
	n := r.Num(f.bytes)
	return part{number: n}, f.mayBe(n)
}

// mayBe tells whether it may be n.
func (f number) mayBe(n int) bool { return f.least <= n && n <= f.most }

// text is a field of just so many bytes.
type text struct {
	bytes int
}

func (f text) size() int { return f.bytes }

func (f text) lay(w *pack.Writer, p part) bool {
	if len(p.text) != f.bytes {
		return false
	}
	w.Raw(p.text)
	return true
}

func (f text) take(r *pack.Reader) (part, bool) {
	return part{text: r.Raw(f.bytes)}, true
}
