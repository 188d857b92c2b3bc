package parity_test

import (
	"encoding/binary"
	"math/rand"
	"strings"
	"testing"
)

// asStream is a length and bytes behind it, which may be no stream of a text.
func asStream(length uint32, behind string) string {
	return string(binary.BigEndian.AppendUint32(nil, length)) + behind
}

// tellsNothing holds Join of a stream in shards, whole and by those beside, to telling that it is of no text.
func tellsNothing(t *testing.T, stream string, data int) {
	t.Helper()
	joinsNot(t, pieces(stream, data), data, 0)
	all := withBeside(pieces(stream, data), 2)
	joinsNot(t, all, data, 2)
	joinsNot(t, without(all, 0, data-1), data, 2)
	holds(t, without(all, 0), data, 2)
}

func TestY6Examples(t *testing.T) {
	five := []string{"\x09", "\x09", "\x09", "\x09", "\x09"}
	joinsNot(t, five, 5, 0)
	joins(t, []string{"\x00", "\x00", "\x00", "\x00", "\x00"}, 5, 0, "")
	joins(t, []string{"\x00\x00\x00", "\x01a\x00", ""}, 2, 1, "a")
}

func TestY6TextsOfAllShortLengths(t *testing.T) {
	r := rand.New(rand.NewSource(12))
	for data := 1; data <= 16; data++ {
		for length := 0; length <= 40; length++ {
			s := chanceText(r, length)
			joins(t, wantShards(s, data, 1), data, 1, s)
			s = strings.Repeat("\x00", length)
			joins(t, without(wantShards(s, data, 3), r.Perm(data + 3)[:3]...), data, 3, s)
		}
	}
}

func TestY6StreamsOfFewerThanFourBytes(t *testing.T) {
	for data := 1; data <= 3; data++ {
		for size := 1; size*data < 4; size++ {
			for _, b := range []string{"\x00", "\x01", "\x09", "\xff"} {
				tellsNothing(t, strings.Repeat(b, size*data), data)
			}
		}
	}
	joins(t, []string{"\x00\x00\x00\x00"}, 1, 0, "")
	joins(t, []string{"\x00\x00", "\x00\x00"}, 2, 0, "")
	joins(t, []string{"\x00", "\x00", "\x00", "\x00"}, 4, 0, "")
}

// Of 16 shards those of 60000 and of 60001 bytes are of one length, so that nothing but the text's length is wrong.
func TestY6LengthsAboveTheMost(t *testing.T) {
	s := strings.Repeat("x", 60000)
	joins(t, pieces(wantStream(s, 16), 16), 16, 0, s)
	stream := wantStream(s+"x", 16)
	if len(stream) != len(wantStream(s, 16)) {
		t.Fatal("they are not of one length")
	}
	tellsNothing(t, stream, 16)
	for data := 2; data <= 16; data++ {
		for _, length := range []int{60001, 60012, 60016, 65536} {
			tellsNothing(t, wantStream(strings.Repeat("x", length), data), data)
		}
	}
	for _, length := range []uint32{60001, 65535, 65536, 65541, 1 << 24, 1<<24 + 5, 1<<31 - 1, 1 << 31, 1<<31 + 5, 1<<32 - 5, 1<<32 - 4, 1<<32 - 1} {
		for data := 1; data <= 16; data++ {
			behind := wantStream("hello", data)[4:]
			tellsNothing(t, asStream(length, behind), data)
			tellsNothing(t, asStream(length, strings.Repeat("\x00", len(behind))), data)
			tellsNothing(t, asStream(length, strings.Repeat("\x00", 16*data-4)), data)
		}
	}
}

// The length tells of a text whose stream would be shorter, or longer, than it is.
func TestY6StreamsOfAnotherLength(t *testing.T) {
	for data := 1; data <= 16; data++ {
		for length := 0; length <= 40; length++ {
			stream := wantStream(strings.Repeat("y", length), data)
			tellsNothing(t, stream+strings.Repeat("\x00", data), data)
			tellsNothing(t, stream+strings.Repeat("\x00", 5*data), data)
			if len(stream) > data {
				tellsNothing(t, stream[:len(stream)-data], data)
			}
		}
		for size := 4; size <= 6; size++ {
			for told := range size*data + 3 {
				behind := strings.Repeat("\x00", size*data-4)
				stream := asStream(uint32(told), behind)
				if told+4 <= size*data && told+4 > (size-1)*data {
					joins(t, pieces(stream, data), data, 0, behind[:told])
				} else {
					tellsNothing(t, stream, data)
				}
			}
		}
	}
}

// Each byte behind the text is looked at, the first one and the last one too.
func TestY6BytesBehindTheText(t *testing.T) {
	for data := 2; data <= 16; data++ {
		for length := 20; length < 20+data; length++ {
			s := strings.Repeat("z", length)
			stream := wantStream(s, data)
			for place := 4 + length; place < len(stream); place++ {
				for _, by := range []byte{1, ' ', 128, 255} {
					tellsNothing(t, spoilt(stream, place, by), data)
				}
			}
			joins(t, pieces(stream, data), data, 0, s)
		}
	}
}

func TestY6OnlyTheFirstOnesAreLookedAt(t *testing.T) {
	s := "nobody looks behind them"
	all := wantShards(s, 3, 4)
	for n := range 4 {
		joins(t, with(all, 3+n, strings.Repeat("?", len(all[0]))), 3, 4, s)
	}
	junk := strings.Repeat("?", len(all[0]))
	joins(t, append(all[:3:3], junk, junk, junk, junk), 3, 4, s)
	joins(t, []string{all[0], "", all[2], "", all[4], junk, junk}, 3, 4, s)
	joins(t, []string{"", "", "", all[3], all[4], all[5], junk}, 3, 4, s)
	// The others, which would tell the text, are not asked where the first ones tell another one.
	holds(t, []string{junk, all[1], all[2], all[3], all[4], all[5], all[6]}, 3, 4)
	joinsNot(t, []string{junk, all[1], all[2], all[3], all[4], all[5], all[6]}, 3, 4)
}
