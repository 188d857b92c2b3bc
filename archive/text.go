package archive

import (
	"iter"
	"slices"
	"strings"

	"strongbox/api"
	"strongbox/pack"
)

// What an archive begins with, and its kinds.
const (
	archiveLetters = "SA"
	kindWhole      = 1
	kindChange     = 2
)

// The bytes of a small number, and of a check.
const (
	smallWidth = 1
	checkSize  = 4
)

// archive is one, taken apart.
type archive struct {
	kind     int
	from, to string
	sets     string // items as bytes, one behind the other
	clears   string // blocks, a byte each
}

// text is an archive as bytes.
func (a archive) text() string {
	w := pack.NewWriter()
	w.Raw(archiveLetters)
	w.Num(smallWidth, a.kind)
	w.Raw(a.from)
	w.Raw(a.to)
	w.Num(smallWidth, pack.Slots(a.sets, itemSize), len(a.clears))
	w.Raw(a.sets)
	w.Raw(a.clears)
	s, _ := w.Done()
	return withCheck(s)
}

// parse takes an archive apart.
func parse(s string) (archive, error) {
	r := readChecked(s)
	letters, kind := r.Raw(len(archiveLetters)), r.Num(smallWidth)
	from, to := r.Raw(api.DigestSize), r.Raw(api.DigestSize)
	sets, clears := r.Num(smallWidth), r.Num(smallWidth)
	a := archive{kind, from, to, r.Raw(sets * itemSize), r.Raw(clears)}
	if errno, _ := r.Done(); errno != api.OK || letters != archiveLetters || !a.mayBe() {
		return archive{}, fault(api.ErrArchiveForm)
	}
	return a, nil
}

// items goes through what an archive sets.
func (a archive) items() iter.Seq[api.Item] { return itemsOf(a.sets) }

// isCleared tells whether an archive clears a block.
func (a archive) isCleared(block int) bool {
	return strings.IndexByte(a.clears, byte(block)) >= 0
}

// mayBe tells whether an archive that has the lengths of one says nothing that none may.
func (a archive) mayBe() bool {
	if !areRight(a.items()) || !areRising(a.clears) {
		return false
	}
	for x := range a.items() {
		if a.isCleared(x.Block) {
			return false
		}
	}
	switch a.kind {
	case kindWhole:
		return a == wholeOf(slices.Collect(a.items()))
	case kindChange:
		return true
	}
	return false
}

// areRising tells whether blocks, a byte each, rise, and there can be each of them.
func areRising(blocks string) bool {
	last := -1
	for i := range len(blocks) {
		block := int(blocks[i])
		if block <= last || block >= api.MaxBlocks {
			return false
		}
		last = block
	}
	return true
}

// said is what an archive says of itself.
func (a archive) said() api.Archive {
	return api.Archive{Full: a.kind == kindWhole, From: a.from, To: a.to, Sets: pack.Slots(a.sets, itemSize), Clears: len(a.clears)}
}

// withCheck is a text, and behind it its check.
func withCheck(s string) string {
	check := pack.Check(s)
	return s + string([]byte{byte(check), byte(check >> 8), byte(check >> 16), byte(check >> 24)})
}

// readChecked reads what stands ahead of a check; without a right one nothing, which is neither an archive nor a shard.
func readChecked(s string) *pack.Reader {
	body := s[:max(0, len(s)-checkSize)]
	if withCheck(body) != s {
		return pack.NewReader("")
	}
	return pack.NewReader(body)
}
