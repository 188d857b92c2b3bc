package archive_test

import (
	"math"
	"math/rand"
	"slices"
	"strings"
	"testing"

	"strongbox/api"
	"strongbox/archive"
	"strongbox/parity"
)

// packs holds Pack to shards.
func packs(t *testing.T, what, s string, data, beside int) {
	t.Helper()
	want := wantPack(t, s, data, beside)
	if got, errno := archive.Pack(s, data, beside); !slices.Equal(got, want) || errno != api.OK {
		t.Errorf("Pack of %s by %d and %d: %d shards, %d", what, data, beside, len(got), errno)
	}
}

// packsNot holds Pack to an error.
func packsNot(t *testing.T, what, s string, data, beside int, want api.Errno) {
	t.Helper()
	if got, errno := archive.Pack(s, data, beside); len(got) != 0 || errno != want {
		t.Errorf("Pack of %s by %d and %d: %d shards, %d, want %d", what, data, beside, len(got), errno, want)
	}
}

func TestA7ShardsByHand(t *testing.T) {
	s := wantWhole()
	// The stream is the length by four bytes, the 73 bytes, and a nought: 26 bytes for each of three.
	stream := "\x00\x00\x00\x49" + s + "\x00"
	want := []string{shard(0, 3, 0, sum(s), stream[:26]), shard(1, 3, 0, sum(s), stream[26:52]), shard(2, 3, 0, sum(s), stream[52:])}
	if got, errno := archive.Pack(s, 3, 0); !slices.Equal(got, want) || errno != api.OK {
		t.Errorf("Pack: %x, %d, want %x", got, errno, want)
	}
	if want[2] != checked("SH\x02\x03\x00"+sum(s)+stream[52:]) {
		t.Errorf("the test's shard: %x", want[2])
	}
	// Beside one shard of data each other one is its product with the inverse of 16, 17 ..
	var beside []byte
	inverse, _ := parity.Inv(16)
	for _, b := range []byte("\x00\x00\x00\x49" + s) {
		product, _ := parity.Mul(int(b), inverse)
		beside = append(beside, byte(product))
	}
	want = []string{shard(0, 1, 1, sum(s), "\x00\x00\x00\x49"+s), shard(1, 1, 1, sum(s), string(beside))}
	if got, errno := archive.Pack(s, 1, 1); !slices.Equal(got, want) || errno != api.OK {
		t.Errorf("Pack: %x, %d, want %x", got, errno, want)
	}
}

func TestA7AllNumbersOfShards(t *testing.T) {
	s := wantWhole(row(7)...)
	for data := 1; data <= 16; data++ {
		for beside := range 9 {
			packs(t, "a whole", s, data, beside)
		}
	}
	for what, s := range samples() {
		for _, c := range [][2]int{{1, 0}, {1, 8}, {3, 2}, {16, 0}, {16, 8}} {
			packs(t, what, s, c[0], c[1])
		}
	}
}

// What is no archive is told ahead of numbers that may not be.
func TestA7WhichErrorIsAnswered(t *testing.T) {
	s := wantWhole(row(1, 2)...)
	numbers := []int{math.MinInt, -1, 0, 1, 2, 8, 9, 16, 17, 256, 257, 1 << 32, math.MaxInt}
	for _, data := range numbers {
		for _, beside := range numbers {
			for _, none := range []string{"", "junk", s + "x", turned(s, 3), laid(1, sum(""), sum(""), row(1)), strings.Repeat("x", 60001)} {
				packsNot(t, "no archive", none, data, beside, api.ErrArchiveForm)
			}
			if data >= 1 && data <= 16 && beside >= 0 && beside <= 8 {
				packs(t, "a whole", s, data, beside)
			} else {
				packsNot(t, "a whole", s, data, beside, api.ErrParityCount)
			}
		}
	}
}

func TestA8WhatShardsSay(t *testing.T) {
	for what, s := range samples() {
		for _, c := range [][2]int{{1, 0}, {2, 1}, {16, 8}} {
			parts, _ := parity.Split(s, c[0], c[1])
			for k, x := range wantPack(t, s, c[0], c[1]) {
				want := api.Shard{Number: k, Data: c[0], Parity: c[1], Of: sum(s), Bytes: parts[k]}
				if got, errno := archive.LookShard(x); got != want || errno != api.OK {
					t.Errorf("LookShard of %d of %s: %d of %d and %d, %d", k, what, got.Number, got.Data, got.Parity, errno)
				}
				looksShard(t, what, x)
			}
		}
	}
}

func TestA8Lengths(t *testing.T) {
	of := sum("x")
	isNoShard(t, "40 bytes", checked("SH\x00\x01\x00"+of[:31]))
	for n := range 37 {
		isNoShard(t, "few bytes", checked(("SH\x00\x01\x00" + of)[:n]))
		isNoShard(t, "few bytes, without a check", ("SH\x00\x01\x00" + of)[:n])
	}
	isNoShard(t, "nothing", "")
	for _, part := range []string{"", "x", "\x00", strings.Repeat("x", 60004), strings.Repeat("x", 60005), strings.Repeat("x", 100000)} {
		s := shard(0, 1, 0, of, part)
		if got, errno := archive.LookShard(s); got != (api.Shard{Data: 1, Of: of, Bytes: part}) || errno != api.OK {
			t.Errorf("LookShard of one of %d bytes: %d bytes, %d", len(s), len(got.Bytes), errno)
		}
	}
	if s := shard(0, 1, 0, of, ""); len(s) != 41 {
		t.Errorf("the least shard has %d bytes", len(s))
	}
}

func TestA8Letters(t *testing.T) {
	s := shard(1, 2, 1, sum("x"), "part")
	for b := range 256 {
		if b != 'S' {
			isNoShard(t, "another first letter", put(s, 0, byte(b)))
		}
		if b != 'H' {
			isNoShard(t, "another second letter", put(s, 1, byte(b)))
		}
	}
	isNoShard(t, "an archive", wantWhole())
}

func TestA8Numbers(t *testing.T) {
	of := sum("x")
	for _, data := range []byte{0, 17, 18, 128, 255} {
		isNoShard(t, "data that may not be", shard(0, data, 0, of, "part"))
		isNoShard(t, "data that may not be", shard(0, data, 8, of, "part"))
	}
	for _, beside := range []byte{9, 10, 128, 255} {
		isNoShard(t, "parity that may not be", shard(0, 1, beside, of, "part"))
		isNoShard(t, "parity that may not be", shard(0, 16, beside, of, "part"))
	}
	for data := range 18 {
		for beside := range 10 {
			for number := range 30 {
				looksShard(t, "numbers", shard(byte(number), byte(data), byte(beside), of, "part"))
			}
			looksShard(t, "the greatest number", shard(255, byte(data), byte(beside), of, "part"))
		}
	}
	isNoShard(t, "a number of all together", shard(3, 2, 1, of, "part"))
	isNoShard(t, "a number of all together", shard(24, 16, 8, of, "part"))
}

func TestA8BitsTurned(t *testing.T) {
	for _, s := range wantPack(t, wantWhole(row(7)...), 2, 1) {
		for bit := range 8 * len(s) {
			isNoShard(t, "a bit turned", turned(s, bit))
			if bit < 8*(len(s)-4) {
				looksShard(t, "a bit turned, checked again", again(turned(s, bit)))
			}
		}
		check := []byte(s[len(s)-4:])
		slices.Reverse(check)
		isNoShard(t, "the check the highest first", s[:len(s)-4]+string(check))
		isNoShard(t, "one byte fewer", s[:len(s)-1])
		isNoShard(t, "one byte more", s+"\x00")
	}
}

// choice is those of a list whose bits are set.
func choice(list []string, bits int) []string {
	var some []string
	for k, s := range list {
		if bits>>k&1 == 1 {
			some = append(some, s)
		}
	}
	return some
}

// mixed is a list in another order, with some of it twice.
func mixed(r *rand.Rand, list []string) []string {
	other := slices.Clone(list)
	for range r.Intn(4) {
		if len(list) > 0 {
			other = append(other, list[r.Intn(len(list))])
		}
	}
	r.Shuffle(len(other), func(i, j int) { other[i], other[j] = other[j], other[i] })
	return other
}

func TestA9Examples(t *testing.T) {
	s := wantWhole(row(7)...)
	three := wantPack(t, s, 2, 1)
	unpacks(t, "the third one and the first one", []string{three[2], three[0]}, s)
	unpacksNot(t, "the third one twice", []string{three[2], three[2]})
	unpacksNot(t, "none", nil)
	unpacksNot(t, "none", []string{})
}

// Each choice of shards: if there are as many as of data, they are enough, in whatever order.
func TestA9EachChoice(t *testing.T) {
	r := rand.New(rand.NewSource(9))
	for what, s := range samples() {
		if len(s) > 1000 {
			continue
		}
		for _, c := range [][2]int{{1, 0}, {1, 1}, {1, 3}, {2, 1}, {3, 0}, {3, 2}, {4, 2}} {
			all := wantPack(t, s, c[0], c[1])
			for bits := range 1 << len(all) {
				some := choice(all, bits)
				falling := slices.Clone(some)
				slices.Reverse(falling)
				for _, list := range [][]string{some, falling, mixed(r, some), append(slices.Clone(some), falling...)} {
					if len(some) >= c[0] {
						unpacks(t, what, list, s)
					} else {
						unpacksNot(t, what, list)
					}
				}
			}
		}
	}
}

func TestA9ManyShards(t *testing.T) {
	r := rand.New(rand.NewSource(10))
	for what, s := range samples() {
		all := wantPack(t, s, 16, 8)
		for range 6 {
			r.Shuffle(len(all), func(i, j int) { all[i], all[j] = all[j], all[i] })
			unpacks(t, what, mixed(r, all[:16]), s)
			unpacksNot(t, what, mixed(r, all[:15]))
		}
		unpacks(t, what, all, s)
	}
}

func TestA9ShardsThatDoNotBelongTogether(t *testing.T) {
	s, o := wantWhole(row(7)...), wantWhole(row(8)...)
	all, other := wantPack(t, s, 2, 2), wantPack(t, o, 2, 2)
	parts, _ := parity.Split(s, 2, 2)
	of := sum(s)
	for _, strange := range []string{
		other[2], other[3], other[0],
		wantPack(t, s, 2, 3)[2], wantPack(t, s, 2, 1)[2], wantPack(t, s, 3, 1)[2], wantPack(t, s, 1, 3)[3],
		shard(2, 3, 2, of, parts[2]), shard(2, 2, 3, of, parts[2]), shard(2, 2, 2, sum("x"), parts[2]), shard(2, 2, 2, turned(of, 255), parts[2]),
		shard(2, 2, 2, of, parts[2]+"x"), shard(2, 2, 2, of, parts[2][1:]), shard(2, 2, 2, of, ""),
		"junk", "", s, all[2] + "x", turned(all[2], 300),
	} {
		for _, list := range [][]string{{all[0], all[1], strange}, {strange, all[0], all[1]}, {all[0], strange, all[1]}, {all[0], strange}, {all[0], all[1], all[2], all[3], strange}} {
			unpacksNot(t, "a strange one among them", list)
		}
	}
	unpacks(t, "those that belong together", all, s)
}

func TestA9OneNumberWithOtherBytes(t *testing.T) {
	s := wantWhole(row(7)...)
	all := wantPack(t, s, 3, 2)
	for k := range all {
		for _, at := range []int{37, len(all[k]) - 5} {
			spoilt := put(all[k], at, all[k][at]+1)
			unpacksNot(t, "both", append(slices.Clone(all), spoilt))
			unpacksNot(t, "both", append([]string{spoilt}, all...))
			unpacksNot(t, "both, and too few", []string{all[k], spoilt})
			list := slices.Clone(all)
			list[k] = spoilt
			if k < 3 {
				unpacksNot(t, "the spoilt one alone", list)
			} else {
				// Join does not look at those behind the first ones, and what comes of these has the digest.
				unpacks(t, "a spoilt one that is not needed", list, s)
			}
			unpacksNot(t, "a spoilt one that is needed", slices.Concat(list[k:k+1], all[:min(k, 2)], all[k+1:][:2-min(k, 2)]))
		}
	}
}

// The parts of an archive with another one's digest.
func TestA9AnotherDigest(t *testing.T) {
	s := wantWhole(row(7)...)
	parts, _ := parity.Split(s, 2, 1)
	for _, of := range []string{sum(wantWhole(row(8)...)), sum(""), turned(sum(s), 0), strings.Repeat("\x00", 32)} {
		var list []string
		for k, part := range parts {
			list = append(list, shard(byte(k), 2, 1, of, part))
		}
		unpacksNot(t, "another digest", list)
		unpacksNot(t, "another digest", list[1:])
	}
}

func TestA9NoArchive(t *testing.T) {
	s := wantWhole(row(7)...)
	for _, none := range []string{"", "junk", s + "x", s[1:], turned(s, 100), laid(1, sum(""), sum(""), row(7)), laid(2, sum(""), sum(""), row(7), 7)} {
		for _, c := range [][2]int{{1, 0}, {2, 1}, {3, 0}} {
			list := wantPack(t, none, c[0], c[1])
			unpacksNot(t, "no archive", list)
			unpacksNot(t, "no archive", list[len(list)-c[0]:])
		}
	}
}

// Parts that parity.Join refuses.
func TestA9PartsThatAreOfNoText(t *testing.T) {
	s := wantWhole()
	stream := "\x00\x00\x00\x49" + s
	for _, part := range []string{"", "x", "\x00\x00\x00", "\x00\x00\x00\x01", stream + "\x00", stream[:76], "\x00\x00\x00\x48" + s, "\x00\x00\x00\x4a" + s, "\xff\xff\xff\xff" + s, strings.Repeat("\x09", 80), strings.Repeat("\x00", 60004), strings.Repeat("\x00", 60005)} {
		for _, of := range []string{sum(s), sum(""), sum(part)} {
			unpacksNot(t, "a part of no text", []string{shard(0, 1, 0, of, part)})
			unpacksNot(t, "a part of no text", []string{shard(0, 1, 1, of, part), shard(1, 1, 1, of, part)})
		}
	}
	unpacks(t, "the part of a text", []string{shard(0, 1, 0, sum(s), stream)}, s)
	// Behind the text there must be noughts alone.
	halves := stream + "\x01"
	unpacksNot(t, "a one behind the text", []string{shard(0, 2, 0, sum(s), halves[:39]), shard(1, 2, 0, sum(s), halves[39:])})
	halves = stream + "\x00"
	unpacks(t, "a nought behind the text", []string{shard(0, 2, 0, sum(s), halves[:39]), shard(1, 2, 0, sum(s), halves[39:])}, s)
}

// Shards whose parts are empty: there are enough numbers, and nothing in them.
func TestA9EmptyParts(t *testing.T) {
	for _, of := range []string{sum(""), sum(wantWhole())} {
		for data := byte(1); data <= 16; data++ {
			var list []string
			for k := range data {
				list = append(list, shard(k, data, 0, of, ""))
			}
			unpacksNot(t, "empty parts", list)
			unpacksNot(t, "empty parts", append(list, list...))
		}
	}
}

// Lists by chance: some shards of two archives, some of them spoilt.
func TestA9ListsByChance(t *testing.T) {
	r := rand.New(rand.NewSource(11))
	one, two := wantWhole(row(7)...), wantChange(row(7), nil)
	told := 0
	for range 4000 {
		data, beside := 1+r.Intn(4), r.Intn(4)
		list := mixed(r, choice(wantPack(t, one, data, beside), r.Intn(256)))
		if r.Intn(6) == 0 {
			list = append(list, wantPack(t, two, data, beside)[0])
		}
		if len(list) > 0 && r.Intn(3) == 0 {
			k := r.Intn(len(list))
			if s := list[k]; r.Intn(3) == 0 {
				list[k] = turned(s, r.Intn(8*len(s)))
			} else {
				list[k] = put(s, r.Intn(len(s)-4), byte(r.Intn(256)))
			}
		}
		want, wantErrno := wantUnpack(list)
		if got, errno := archive.Unpack(list); got != want || errno != wantErrno {
			t.Fatalf("Unpack of %d shards by %d and %d: %d bytes, %d, want %d bytes, %d", len(list), data, beside, len(got), errno, len(want), wantErrno)
		}
		if wantErrno == api.OK {
			told++
		}
	}
	if told < 500 || told > 3500 {
		t.Errorf("%d of 4000 are told: chance tries too little", told)
	}
}
