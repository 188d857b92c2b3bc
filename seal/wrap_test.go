package seal_test

import (
	"encoding/binary"
	"math"
	"strings"
	"testing"

	"strongbox/api"
	"strongbox/seal"
)

// wantWrapped is a key wrapped, by the library's own SHA-256 and HMAC.
func wantWrapped(master string, volume, block int, key string) string {
	place := binary.BigEndian.AppendUint32([]byte("wrap"), uint32(volume))
	w := wantMac(master, string(binary.BigEndian.AppendUint32(place, uint32(block))))
	hidden := wantXor(key, wantStream(w)[:32])
	return hidden + wantMac(w, "tag"+hidden)[:16]
}

// places go to the edges of what may be.
func places() [][2]int {
	return [][2]int{{0, 0}, {0, 59}, {99, 0}, {99, 59}, {1, 0}, {0, 1}, {7, 31}, {98, 58}}
}

// notPlaces lie beyond them; some are places again, if only the low bytes are looked at.
func notPlaces() [][2]int {
	return [][2]int{
		{-1, 0}, {100, 0}, {0, -1}, {0, 60}, {-1, -1}, {100, 60}, {100, 59}, {99, 60}, {-1, 59}, {99, -1}, {0, 99}, {60, 60},
		{256, 0}, {0, 256}, {1 << 32, 0}, {0, 1 << 32}, {-1 << 32, 0}, {0, -1 << 32},
		{math.MaxInt, 0}, {0, math.MaxInt}, {math.MinInt, 0}, {0, math.MinInt}, {math.MaxInt, math.MinInt},
	}
}

func masters() []string {
	return []string{aKey(4), strings.Repeat("\x00", 32), strings.Repeat("\xff", 32)}
}

func keys() []string {
	return []string{aKey(8), strings.Repeat("\x00", 32), strings.Repeat("\xff", 32), aKey(4)}
}

// notWrapped have another length than a wrapped key, the nearest ones first.
func notWrapped() []string {
	whole := wantWrapped(aKey(4), 5, 7, aKey(8))
	return []string{whole[:47], whole + "\x00", whole[1:], "", "w", whole[:32], whole[:16], whole + whole, text(256, 0)}
}

func TestS6Wrap(t *testing.T) {
	for _, m := range masters() {
		for _, c := range places() {
			for _, k := range keys() {
				want := wantWrapped(m, c[0], c[1], k)
				if got, e := seal.Wrap(m, c[0], c[1], k); got != want || e != api.OK {
					t.Errorf("Wrap(%.4q.., %d, %d, %.4q..) = %x, %d, want %x", m, c[0], c[1], k, got, e, want)
				}
			}
		}
	}
}

func TestS6WrapRefusesInOrder(t *testing.T) {
	m, k := aKey(4), aKey(8)
	for _, no := range notKeys() {
		for _, c := range append(notPlaces(), places()...) {
			for _, x := range [][2]string{{no, k}, {m, no}, {no, no}} {
				if got, e := seal.Wrap(x[0], c[0], c[1], x[1]); got != "" || e != api.ErrSealKey {
					t.Errorf("Wrap(%d bytes, %d, %d, %d bytes) = %x, %d, want error %d", len(x[0]), c[0], c[1], len(x[1]), got, e, api.ErrSealKey)
				}
			}
		}
	}
	for _, c := range notPlaces() {
		if got, e := seal.Wrap(m, c[0], c[1], k); got != "" || e != api.ErrArg {
			t.Errorf("Wrap(master, %d, %d, key) = %x, %d, want error %d", c[0], c[1], got, e, api.ErrArg)
		}
	}
}

func TestS7Unwrap(t *testing.T) {
	for _, m := range masters() {
		for _, c := range places() {
			for _, k := range keys() {
				if got, e := seal.Unwrap(m, c[0], c[1], wantWrapped(m, c[0], c[1], k)); got != k || e != api.OK {
					t.Errorf("Unwrap(%.4q.., %d, %d, wrapped) = %x, %d, want %x", m, c[0], c[1], got, e, k)
				}
			}
		}
	}
}

func TestS7UnwrapRefusesWhatIsNotSo(t *testing.T) {
	m, k := aKey(4), aKey(8)
	wrapped := wantWrapped(m, 5, 7, k)
	other := wantWrapped(m, 5, 7, aKey(9))
	cases := []string{
		strings.Repeat("\x00", 48), strings.Repeat("\xff", 48),
		wrapped[:32] + other[32:], other[:32] + wrapped[32:], wrapped[32:] + wrapped[:32],
	}
	for bit := range 8 * 48 {
		cases = append(cases, turned(wrapped, bit))
	}
	for _, w := range cases {
		if got, e := seal.Unwrap(m, 5, 7, w); got != "" || e != api.ErrSealTag {
			t.Errorf("Unwrap of %x = %x, %d, want error %d", w, got, e, api.ErrSealTag)
		}
	}
}

func TestS7UnwrapRefusesOtherOwnersAndPlaces(t *testing.T) {
	m := aKey(4)
	wrapped := wantWrapped(m, 5, 7, aKey(8))
	for bit := range 8 * 32 {
		if got, e := seal.Unwrap(turned(m, bit), 5, 7, wrapped); got != "" || e != api.ErrSealTag {
			t.Errorf("Unwrap by a master with bit %d turned = %x, %d, want error %d", bit, got, e, api.ErrSealTag)
		}
	}
	for volume := range 100 {
		for block := range 60 {
			if volume == 5 && block == 7 {
				continue
			}
			if got, e := seal.Unwrap(m, volume, block, wrapped); got != "" || e != api.ErrSealTag {
				t.Errorf("Unwrap for %d, %d = %x, %d, want error %d", volume, block, got, e, api.ErrSealTag)
			}
		}
	}
}

func TestS7UnwrapRefusesInOrder(t *testing.T) {
	m := aKey(4)
	wrapped := wantWrapped(m, 5, 7, aKey(8))
	all := append(notWrapped(), wrapped, turned(wrapped, 0))
	for _, no := range notKeys() {
		for _, c := range append(notPlaces(), [2]int{5, 7}) {
			for _, w := range all {
				if got, e := seal.Unwrap(no, c[0], c[1], w); got != "" || e != api.ErrSealKey {
					t.Errorf("Unwrap(%d bytes, %d, %d, %d bytes) = %x, %d, want error %d", len(no), c[0], c[1], len(w), got, e, api.ErrSealKey)
				}
			}
		}
	}
	for _, c := range notPlaces() {
		for _, w := range all {
			if got, e := seal.Unwrap(m, c[0], c[1], w); got != "" || e != api.ErrArg {
				t.Errorf("Unwrap(master, %d, %d, %d bytes) = %x, %d, want error %d", c[0], c[1], len(w), got, e, api.ErrArg)
			}
		}
	}
	for _, w := range notWrapped() {
		if got, e := seal.Unwrap(m, 5, 7, w); got != "" || e != api.ErrSealSize {
			t.Errorf("Unwrap(master, 5, 7, %d bytes) = %x, %d, want error %d", len(w), got, e, api.ErrSealSize)
		}
	}
}

func TestS9UnwrapOfWhatWrapGaveIsTheKey(t *testing.T) {
	for volume := range 100 {
		for block := range 60 {
			m, k := aKey(byte(volume)), aKey(byte(2*block+1))
			wrapped, e := seal.Wrap(m, volume, block, k)
			if len(wrapped) != api.WrappedSize || e != api.OK {
				t.Errorf("Wrap for %d, %d = %d bytes, error %d", volume, block, len(wrapped), e)
			}
			if got, e := seal.Unwrap(m, volume, block, wrapped); got != k || e != api.OK {
				t.Errorf("Unwrap for %d, %d = %x, %d, want %x", volume, block, got, e, k)
			}
		}
	}
}
