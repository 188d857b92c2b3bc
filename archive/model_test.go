package archive_test

import (
	"bytes"
	"crypto/sha256"
	"fmt"
	"hash/crc32"
	"math"
	"math/rand"
	"slices"
	"strings"
	"testing"

	"strongbox/api"
	"strongbox/archive"
	"strongbox/parity"
)

// What the chapter's words make of items, archives and shards, reckoned by other means than the package's: digests and checks by Go's library, roots by levels, items in an array by their blocks, texts cut by their places.

func sum(s string) string {
	d := sha256.Sum256([]byte(s))
	return string(d[:])
}

// checked is a text and its check.
func checked(s string) string {
	c := crc32.ChecksumIEEE([]byte(s))
	return s + string([]byte{byte(c), byte(c >> 8), byte(c >> 16), byte(c >> 24)})
}

// again is a text whose last four bytes are the check of the others.
func again(s string) string { return checked(s[:len(s)-4]) }

// isChecked tells whether a text has its check at its end.
func isChecked(s string) bool { return len(s) >= 4 && again(s) == s }

// asBytes is an item as bytes.
func asBytes(x api.Item) string { return string([]byte{byte(x.Block)}) + x.Wrapped + x.Data }

// wantRoot is the root of items, from the leaves up: the last one of an odd level goes up as it is.
func wantRoot(l ...api.Item) string {
	if len(l) == 0 {
		return sum("")
	}
	var level []string
	for _, x := range l {
		level = append(level, sum("\x00"+asBytes(x)))
	}
	for len(level) > 1 {
		var above []string
		for pair := range slices.Chunk(level, 2) {
			if len(pair) == 2 {
				pair = []string{sum("\x01" + pair[0] + pair[1])}
			}
			above = append(above, pair[0])
		}
		level = above
	}
	return level[0]
}

// laid is an archive of these parts, whether it may be or not.
func laid(kind byte, from, to string, sets []api.Item, clears ...byte) string {
	var b bytes.Buffer
	b.WriteString("SA")
	b.WriteByte(kind)
	b.WriteString(from + to)
	b.Write([]byte{byte(len(sets)), byte(len(clears))})
	for _, x := range sets {
		b.WriteString(asBytes(x))
	}
	b.Write(clears)
	return checked(b.String())
}

// wantWhole is the whole that sets items.
func wantWhole(l ...api.Item) string { return laid(1, sum(""), wantRoot(l...), l) }

// seats is right items by their blocks; an empty seat has a zero item.
type seats [60]api.Item

func seatsOf(l []api.Item) seats {
	var all seats
	for _, x := range l {
		all[x.Block] = x
	}
	return all
}

func (all seats) list() []api.Item {
	var l []api.Item
	for _, x := range all {
		if x != (api.Item{}) {
			l = append(l, x)
		}
	}
	return l
}

// wantChange is the change from right items to others.
func wantChange(from, to []api.Item) string {
	before, behind := seatsOf(from), seatsOf(to)
	var sets []api.Item
	var clears []byte
	for block := range 60 {
		switch old, now := before[block], behind[block]; {
		case old == now:
		case now.Data == "":
			clears = append(clears, byte(block))
		default:
			sets = append(sets, now)
		}
	}
	return laid(2, wantRoot(from...), wantRoot(to...), sets, clears...)
}

// areRight tells whether items are.
func areRight(l []api.Item) bool {
	for k, x := range l {
		if x.Block < 0 || x.Block > 59 || len(x.Data) != 256 || len(x.Wrapped) != 48 || k > 0 && l[k-1].Block >= x.Block {
			return false
		}
	}
	return true
}

// parts is what a text would say, if it were an archive.
type parts struct {
	kind     byte
	from, to string
	sets     []api.Item
	clears   []byte
}

// wantParts is what an archive says; false, if it is none.
func wantParts(s string) (parts, bool) {
	if len(s) < 73 || s[:2] != "SA" || !isChecked(s) {
		return parts{}, false
	}
	sets, clears := int(s[67]), int(s[68])
	behind := 69 + 305*sets
	if len(s) != behind+clears+4 {
		return parts{}, false
	}
	p := parts{kind: s[2], from: s[3:35], to: s[35:67], clears: []byte(s[behind : behind+clears])}
	var set, cleared [256]int
	for k := range sets {
		at := 69 + 305*k
		p.sets = append(p.sets, api.Item{Block: int(s[at]), Wrapped: s[at+1 : at+49], Data: s[at+49 : at+305]})
		set[s[at]]++
	}
	for k, block := range p.clears {
		if block > 59 || k > 0 && p.clears[k-1] >= block {
			return parts{}, false
		}
		cleared[block]++
	}
	for block := range 256 {
		if set[block]+cleared[block] > 1 {
			return parts{}, false
		}
	}
	isWhole := p.kind == 1 && p.from == sum("") && p.to == wantRoot(p.sets...) && clears == 0
	return p, areRight(p.sets) && (isWhole || p.kind == 2)
}

// wantLook is the answer of Look.
func wantLook(s string) (api.Archive, api.Errno) {
	p, is := wantParts(s)
	if !is {
		return api.Archive{}, api.ErrArchiveForm
	}
	return api.Archive{Full: p.kind == 1, From: p.from, To: p.to, Sets: len(p.sets), Clears: len(p.clears)}, api.OK
}

// wantRead is the answer of Read.
func wantRead(s string) ([]api.Item, api.Errno) {
	p, is := wantParts(s)
	if !is {
		return nil, api.ErrArchiveForm
	}
	if p.kind == 2 {
		return nil, api.ErrArchiveKind
	}
	return p.sets, api.OK
}

// wantApply is the answer of Apply.
func wantApply(l []api.Item, s string) ([]api.Item, api.Errno) {
	if !areRight(l) {
		return nil, api.ErrArchiveItem
	}
	p, is := wantParts(s)
	if !is {
		return nil, api.ErrArchiveForm
	}
	if p.kind == 1 {
		return nil, api.ErrArchiveKind
	}
	all := seatsOf(l)
	for _, block := range p.clears {
		all[block] = api.Item{}
	}
	for _, x := range p.sets {
		all[x.Block] = x
	}
	if wantRoot(l...) != p.from || wantRoot(all.list()...) != p.to {
		return nil, api.ErrArchiveBase
	}
	return all.list(), api.OK
}

// wantChain is the answer of Chain.
func wantChain(l []string) ([]api.Item, api.Errno) {
	if len(l) == 0 {
		return nil, api.ErrArg
	}
	items, errno := wantRead(l[0])
	for k := 1; k < len(l) && errno == api.OK; k++ {
		items, errno = wantApply(items, l[k])
	}
	return items, errno
}

// shard is one of these parts, whether it may be or not.
func shard(number, data, beside byte, of, part string) string {
	return checked("SH" + string([]byte{number, data, beside}) + of + part)
}

// wantShard is the answer of LookShard.
func wantShard(s string) (api.Shard, api.Errno) {
	if len(s) < 41 || s[:2] != "SH" || !isChecked(s) {
		return api.Shard{}, api.ErrArchiveShard
	}
	x := api.Shard{Number: int(s[2]), Data: int(s[3]), Parity: int(s[4]), Of: s[5:37], Bytes: s[37 : len(s)-4]}
	if x.Data == 0 || x.Data > 16 || x.Parity > 8 || x.Number >= x.Data+x.Parity {
		return api.Shard{}, api.ErrArchiveShard
	}
	return x, api.OK
}

// wantUnpack is the answer of Unpack.
func wantUnpack(shards []string) (string, api.Errno) {
	var all []api.Shard
	numbers := map[int]string{}
	for _, s := range shards {
		x, errno := wantShard(s)
		if errno != api.OK {
			return "", api.ErrArchiveShard
		}
		part, is := numbers[x.Number]
		if is && part != x.Bytes {
			return "", api.ErrArchiveShard
		}
		numbers[x.Number] = x.Bytes
		all = append(all, x)
		if first := all[0]; first.Data != x.Data || first.Parity != x.Parity || first.Of != x.Of || len(first.Bytes) != len(x.Bytes) {
			return "", api.ErrArchiveShard
		}
	}
	if len(all) == 0 || len(numbers) < all[0].Data {
		return "", api.ErrArchiveShard
	}
	list := make([]string, all[0].Data+all[0].Parity)
	for number, part := range numbers {
		list[number] = part
	}
	s, errno := parity.Join(list, all[0].Data, all[0].Parity)
	if _, is := wantParts(s); errno != api.OK || sum(s) != all[0].Of || !is {
		return "", api.ErrArchiveShard
	}
	return s, api.OK
}

// wantPack is the shards of an archive.
func wantPack(t *testing.T, s string, data, beside int) []string {
	t.Helper()
	list, errno := parity.Split(s, data, beside)
	if errno != api.OK {
		t.Fatalf("Split by %d and %d: %d", data, beside, errno)
	}
	for k, part := range list {
		list[k] = shard(byte(k), byte(data), byte(beside), sum(s), part)
	}
	return list
}

// item is one of a block, whose bytes hang on a number.
func item(block, number int) api.Item {
	r := rand.New(rand.NewSource(int64(number)))
	b := make([]byte, 304)
	r.Read(b)
	return api.Item{Block: block, Data: string(b[:256]), Wrapped: string(b[256:])}
}

// row is items of these blocks, of which no two are alike.
func row(blocks ...int) []api.Item {
	var l []api.Item
	for _, block := range blocks {
		l = append(l, item(block, block))
	}
	return l
}

// first is items of the blocks below n.
func first(n int) []api.Item {
	var l []api.Item
	for block := range n {
		l = append(l, item(block, block))
	}
	return l
}

// chanceItems is right items: some blocks, with few kinds of bytes, so that lists have items in common.
func chanceItems(r *rand.Rand) []api.Item {
	var l []api.Item
	often := 1 + r.Intn(12)
	for block := range 60 {
		if r.Intn(often) == 0 {
			l = append(l, item(block, r.Intn(3)))
		}
	}
	return l
}

// lists is right items: none, one, those at the edges, all sixty.
func lists() [][]api.Item {
	full := first(60)
	return [][]api.Item{nil, {}, row(0), row(59), row(30), row(0, 59), row(58, 59), row(0, 1), row(1, 2, 3), first(7), full[1:], full[:59], full}
}

// with is items in which the k-th is another one.
func with(l []api.Item, k int, x api.Item) []api.Item {
	other := slices.Clone(l)
	other[k] = x
	return other
}

// ofLengths is an item whose Data and Wrapped have so many bytes.
func ofLengths(block, data, wrapped int) api.Item {
	return api.Item{Block: block, Data: strings.Repeat("d", data), Wrapped: strings.Repeat("w", wrapped)}
}

// wrongLists is items that are not right.
func wrongLists() [][]api.Item {
	var wrong [][]api.Item
	for _, block := range []int{math.MinInt, math.MinInt + 1, -256, -197, -1, 60, 61, 255, 256, 257, 1 << 32, math.MaxInt - 1, math.MaxInt} {
		wrong = append(wrong, row(block), row(5, block), append(row(block), row(59)...))
	}
	for _, c := range [][2]int{{0, 0}, {0, 48}, {255, 48}, {257, 48}, {512, 48}, {256, 0}, {256, 47}, {256, 49}, {256, 96}, {255, 49}, {257, 47}, {48, 256}, {304, 0}, {0, 304}} {
		x := ofLengths(20, c[0], c[1])
		wrong = append(wrong, []api.Item{x}, append(row(1, 2), x), append([]api.Item{x}, row(21)...), append(append(row(19), x), row(21)...))
	}
	full := first(60)
	falling := slices.Clone(full)
	slices.Reverse(falling)
	return append(wrong, []api.Item{{}}, row(0, 0), row(59, 59), row(1, 2, 2), row(1, 1, 2), row(1, 0), row(59, 0), row(1, 3, 2), row(3, 1, 2), row(1, 2, 0),
		falling, append(slices.Clone(full), item(59, 1)), append(slices.Clone(full), item(60, 1)), append(slices.Clone(full), full...), with(full, 59, item(58, 58)), with(full, 0, item(1, 1)))
}

// turned is a text in which one bit is turned.
func turned(s string, bit int) string {
	b := []byte(s)
	b[bit/8] ^= 1 << (bit % 8)
	return string(b)
}

// put is a text in which one byte is another one, and the check is right again.
func put(s string, at int, b byte) string {
	return again(s[:at] + string([]byte{b}) + s[at+1:])
}

// brief is what an archive says, by signs that can be read.
func brief(a api.Archive) string {
	return fmt.Sprintf("{%v %x %x %d %d}", a.Full, a.From, a.To, a.Sets, a.Clears)
}

// looks holds Look to what it must be, and with it Read and Pack, as far as they hang on the form alone.
func looks(t *testing.T, what, s string) {
	t.Helper()
	want, wantErrno := wantLook(s)
	if got, errno := archive.Look(s); got != want || errno != wantErrno {
		t.Errorf("Look of %s: %s, %d, want %s, %d", what, brief(got), errno, brief(want), wantErrno)
	}
	reads(t, what, s)
	if wantErrno != api.OK {
		shards, errno := archive.Pack(s, 1, 0)
		if len(shards) != 0 || errno != api.ErrArchiveForm {
			t.Errorf("Pack of %s: %d shards, %d, want %d", what, len(shards), errno, api.ErrArchiveForm)
		}
	}
}

// isNone holds Look to refusing a text, and the model too.
func isNone(t *testing.T, what, s string) {
	t.Helper()
	if _, errno := wantLook(s); errno != api.ErrArchiveForm {
		t.Fatalf("%s: the test means it to be no archive", what)
	}
	looks(t, what, s)
}

// isOne holds Look to telling something of a text.
func isOne(t *testing.T, what, s string, want api.Archive) {
	t.Helper()
	if got, errno := archive.Look(s); got != want || errno != api.OK {
		t.Errorf("Look of %s: %s, %d, want %s", what, brief(got), errno, brief(want))
	}
	looks(t, what, s)
}

// reads holds Read to what it must be.
func reads(t *testing.T, what, s string) {
	t.Helper()
	want, wantErrno := wantRead(s)
	if got, errno := archive.Read(s); !slices.Equal(got, want) || errno != wantErrno {
		t.Errorf("Read of %s: %d items, %d, want %d items, %d", what, len(got), errno, len(want), wantErrno)
	}
}

// applies holds Apply to items and an error, and the model too.
func applies(t *testing.T, what string, l []api.Item, s string, want []api.Item, wantErrno api.Errno) {
	t.Helper()
	if model, errno := wantApply(l, s); !slices.Equal(model, want) || errno != wantErrno {
		t.Fatalf("%s: the model says %d items, %d", what, len(model), errno)
	}
	if got, errno := archive.Apply(l, s); !slices.Equal(got, want) || errno != wantErrno {
		t.Errorf("Apply of %s: %d items, %d, want %d items, %d", what, len(got), errno, len(want), wantErrno)
	}
}

// chains holds Chain to items and an error, and the model too.
func chains(t *testing.T, what string, l []string, want []api.Item, wantErrno api.Errno) {
	t.Helper()
	if model, errno := wantChain(l); !slices.Equal(model, want) || errno != wantErrno {
		t.Fatalf("%s: the model says %d items, %d", what, len(model), errno)
	}
	if got, errno := archive.Chain(l); !slices.Equal(got, want) || errno != wantErrno {
		t.Errorf("Chain of %s: %d items, %d, want %d items, %d", what, len(got), errno, len(want), wantErrno)
	}
}

// looksShard holds LookShard to what it must be.
func looksShard(t *testing.T, what, s string) {
	t.Helper()
	want, wantErrno := wantShard(s)
	if got, errno := archive.LookShard(s); got != want || errno != wantErrno {
		t.Errorf("LookShard of %s: %d of %d and %d, %d bytes, %d, want %d", what, got.Number, got.Data, got.Parity, len(got.Bytes), errno, wantErrno)
	}
}

// isNoShard holds LookShard to refusing a text, and Unpack too.
func isNoShard(t *testing.T, what, s string) {
	t.Helper()
	if _, errno := wantShard(s); errno != api.ErrArchiveShard {
		t.Fatalf("%s: the test means it to be no shard", what)
	}
	looksShard(t, what, s)
	unpacksNot(t, what, []string{s})
}

// unpacks holds Unpack to an archive, and the model too.
func unpacks(t *testing.T, what string, shards []string, want string) {
	t.Helper()
	if model, errno := wantUnpack(shards); model != want || errno != api.OK {
		t.Fatalf("%s: the model says %d bytes, %d", what, len(model), errno)
	}
	if got, errno := archive.Unpack(shards); got != want || errno != api.OK {
		t.Errorf("Unpack of %s: %d bytes, %d, want %d bytes", what, len(got), errno, len(want))
	}
}

// unpacksNot holds Unpack to refusing shards, and the model too.
func unpacksNot(t *testing.T, what string, shards []string) {
	t.Helper()
	if _, errno := wantUnpack(shards); errno != api.ErrArchiveShard {
		t.Fatalf("%s: the model says %d", what, errno)
	}
	if got, errno := archive.Unpack(shards); got != "" || errno != api.ErrArchiveShard {
		t.Errorf("Unpack of %s: %d bytes, %d, want %d", what, len(got), errno, api.ErrArchiveShard)
	}
}
