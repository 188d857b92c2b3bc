package archive

import (
	"errors"
	"slices"
	"strings"
	"testing"

	"strongbox/api"
)

// wrapping is an error around another one.
type wrapping struct{ error }

func (w wrapping) Unwrap() error { return w.error }

func TestErrnoOfFindsTheFault(t *testing.T) {
	for _, err := range []error{fault(api.ErrArchiveBase), wrapping{fault(api.ErrArchiveBase)}, wrapping{wrapping{fault(api.ErrArchiveBase)}}} {
		if got := errnoOf(err); got != api.ErrArchiveBase {
			t.Errorf("of %v: %d", err, got)
		}
	}
	if got := errnoOf(nil); got != api.OK {
		t.Errorf("of nothing: %d", got)
	}
}

func TestFaultTellsItsNumber(t *testing.T) {
	if got := fault(api.ErrArchiveForm).Error(); got != "archive: error 201" {
		t.Errorf("it says %q", got)
	}
}

// What is wrong goes up as the layer's own error, whichever call finds it.
func TestWhatIsWrongIsAFault(t *testing.T) {
	whole := wholeOf(nil).text()
	found := map[api.Errno]error{api.ErrArchiveItem: checkItems(nil, []api.Item{{}})}
	_, found[api.ErrArchiveForm] = parse("")
	_, found[api.ErrArchiveKind] = apply(nil, whole)
	_, found[api.ErrArchiveShard] = parseShard("")
	_, found[api.ErrParityCount] = split(whole, 0, 0)
	_, found[api.ErrArg] = chain(nil)
	for want, err := range found {
		var f fault
		if !errors.As(err, &f) || api.Errno(f) != want {
			t.Errorf("%v, want %d", err, want)
		}
	}
}

// plain is items of some blocks.
func plain(blocks ...int) []api.Item {
	var l []api.Item
	for _, block := range blocks {
		l = append(l, api.Item{Block: block, Data: strings.Repeat("d", 256), Wrapped: strings.Repeat("w", 48)})
	}
	return l
}

func TestItemsOfEndsWithItsLoop(t *testing.T) {
	l := plain(1, 2, 3, 4)
	items := wholeOf(l).items()
	for stop := range 5 {
		var got []api.Item
		for x := range items {
			if len(got) == stop {
				break
			}
			got = append(got, x)
		}
		if !slices.Equal(got, l[:stop]) {
			t.Errorf("up to %d: %d items", stop, len(got))
		}
	}
}

func TestBothGoesThroughTwoListsByRisingBlocks(t *testing.T) {
	pairs := both(plain(0, 2, 3, 59), plain(1, 2, 58, 59))
	want := [][2]bool{{true, false}, {false, true}, {true, true}, {true, false}, {false, true}, {true, true}}
	blocks := []int{0, 1, 2, 3, 58, 59}
	// It may be gone through again, and left wherever one likes.
	for stop := range len(want) + 1 {
		k := 0
		for x, y := range pairs {
			if k == stop {
				break
			}
			if got := [2]bool{x != (api.Item{}), y != (api.Item{})}; got != want[k] || max(x.Block, y.Block) != blocks[k] {
				t.Errorf("pair %d: %v of block %d", k, got, max(x.Block, y.Block))
			}
			k++
		}
		if k != stop {
			t.Errorf("%d pairs, want %d", k, stop)
		}
	}
}
