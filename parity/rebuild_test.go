package parity_test

import (
	"math/rand"
	"slices"
	"strings"
	"testing"

	"strongbox/api"
	"strongbox/parity"
)

// rebuilds holds Rebuild to shards.
func rebuilds(t *testing.T, shards []string, data, beside int, want []string) {
	t.Helper()
	if all, errno := parity.Rebuild(shards, data, beside); !slices.Equal(all, want) || errno != api.OK {
		t.Fatalf("Rebuild of %s by %d and %d: %s, %d, want %s, or they are others", brief(shards), data, beside, brief(all), errno, brief(want))
	}
}

// isWrong holds Wrong to an answer.
func isWrong(t *testing.T, shards []string, data, beside int, want bool) {
	t.Helper()
	if wrong, errno := parity.Wrong(shards, data, beside); wrong != want || errno != api.OK {
		t.Fatalf("Wrong of %s by %d and %d: %v, %d, want %v", brief(shards), data, beside, wrong, errno, want)
	}
}

// Shards need be of no text to be rebuilt.
func TestY5AnyShards(t *testing.T) {
	r := rand.New(rand.NewSource(10))
	for data := 1; data <= 16; data++ {
		for beside := 0; beside <= 8; beside++ {
			size := 1 + r.Intn(9)
			all := withBeside(pieces(chanceText(r, size*data), data), beside)
			rebuilds(t, all, data, beside, all)
			isWrong(t, all, data, beside, false)
			for lost := 0; lost <= beside; lost++ {
				left := without(all, r.Perm(data + beside)[:lost]...)
				rebuilds(t, left, data, beside, all)
				isWrong(t, left, data, beside, false)
			}
		}
	}
}

// All shards of data lost that can be, and only shards of data.
func TestY5TheShardsOfDataAreLost(t *testing.T) {
	r := rand.New(rand.NewSource(11))
	for data := 1; data <= 16; data++ {
		for _, beside := range []int{1, 2, 7, 8} {
			all := withBeside(pieces(chanceText(r, 5*data), data), beside)
			lost := r.Perm(data)[:min(data, beside)]
			rebuilds(t, without(all, lost...), data, beside, all)
		}
	}
}

// Bytes of all kinds, in each place of a shard.
func TestY5AllBytes(t *testing.T) {
	var all256 strings.Builder
	for b := range 256 {
		all256.WriteByte(byte(b))
	}
	for _, beside := range []int{1, 4, 8} {
		all := withBeside([]string{all256.String(), strings.Repeat("\x00", 256), strings.Repeat("\xff", 256)}, beside)
		for lost := range 1 << len(all) {
			holds(t, choice(all, lost), 3, beside)
		}
	}
}

func TestY5ShardsBehindTheFirstOnesThatAreSpoilt(t *testing.T) {
	for _, c := range [][2]int{{1, 1}, {1, 3}, {3, 2}, {4, 4}, {16, 8}} {
		data, beside := c[0], c[1]
		s := "this is the text that was split"
		all := wantShards(s, data, beside)
		for n := data; n < data+beside; n++ {
			for place := range all[n] {
				for _, by := range []byte{1, 128, 255} {
					bad := with(all, n, spoilt(all[n], place, by))
					rebuilds(t, bad, data, beside, bad)
					isWrong(t, bad, data, beside, true)
					joins(t, bad, data, beside, s)
				}
			}
			// Where a shard ahead of it is lost, another one is built of those that are left.
			bad := with(all, n, spoilt(all[n], 0, 7))
			isWrong(t, without(bad, n), data, beside, false)
			if beside > 2 && n > data {
				left := without(bad, data)
				want := with(bad, data, all[data])
				rebuilds(t, left, data, beside, want)
				isWrong(t, left, data, beside, true)
				joins(t, left, data, beside, s)
			}
		}
	}
}

// Behind a spoilt one those that are right do not make it right, whichever of them is the spoilt one.
func TestY5OneOfSeveralBehindIsSpoilt(t *testing.T) {
	all := wantShards("some text", 3, 8)
	for n := 3; n < 11; n++ {
		for lost := range 1 << 11 {
			left := choice(with(all, n, spoilt(all[n], 1, 3)), lost)
			if len(there(left)) == 5 {
				holds(t, left, 3, 8)
			}
		}
	}
}

func TestY5AFirstOneThatIsSpoilt(t *testing.T) {
	s := "this is the text that was split"
	for _, c := range [][2]int{{1, 0}, {1, 1}, {3, 0}, {3, 2}, {16, 0}, {16, 8}} {
		data, beside := c[0], c[1]
		all := wantShards(s, data, beside)
		for n := range data {
			bad := with(all, n, spoilt(all[n], len(all[n])-1, 9))
			// With none left behind the first ones nobody can know it.
			isWrong(t, bad, data, beside, beside > 0)
			rebuilds(t, bad, data, beside, bad)
			holds(t, bad, data, beside)
			var behind []int
			for k := range beside {
				behind = append(behind, data+k)
			}
			left := without(bad, behind...)
			isWrong(t, left, data, beside, false)
			rebuilds(t, left, data, beside, withBeside(bad[:data], beside))
			holds(t, left, data, beside)
		}
	}
}

// A first one that is none of data is spoilt: the lost ones are built as it says.
func TestY5AFirstOneBesideIsSpoilt(t *testing.T) {
	all := wantShards("some text", 4, 3)
	bad := without(with(all, 4, spoilt(all[4], 2, 200)), 1)
	fit := holds(t, bad, 4, 3)
	if fit[1] == all[1] {
		t.Errorf("shard 1 is built as if nothing was spoilt")
	}
	isWrong(t, bad, 4, 3, true)
	isWrong(t, without(bad, 5), 4, 3, true)
	isWrong(t, without(bad, 5, 6), 4, 3, false)
	isWrong(t, without(all, 1), 4, 3, false)
}
