package replica_test

import (
	"crypto/sha256"
	"encoding/binary"
	"fmt"
	"hash/crc32"
	"slices"
	"strings"
	"testing"

	"strongbox/api"
	"strongbox/replica"
)

// What the chapter's words make of frames, words, primaries and replicas, reckoned by other means than the package's: digests and checks by Go's library, roots by levels, texts laid together by hand, and all images that were ever noted kept for good.

func sum(s string) string {
	d := sha256.Sum256([]byte(s))
	return string(d[:])
}

// wantRoot is the root of an image, from the leaves up: the last one of an odd level goes up as it is.
func wantRoot(image []string) string {
	var level []string
	for _, s := range image {
		level = append(level, sum("\x00"+s))
	}
	for len(level) > 1 {
		var above []string
		for pair := range slices.Chunk(level, 2) {
			if len(pair) == 2 {
				pair = []string{sum("\x01" + pair[0] + pair[1])}
			}
			above = append(above, pair[0])
		}
		level = above
	}
	return level[0]
}

// checked is a text and its check, the lowest byte first.
func checked(s string) string {
	return s + string(binary.LittleEndian.AppendUint32(nil, crc32.ChecksumIEEE([]byte(s))))
}

// again is a text whose last four bytes are the check of the others.
func again(s string) string { return checked(s[:len(s)-4]) }

// num is a number by so many bytes, the highest first.
func num(n, size int) string {
	return string(binary.BigEndian.AppendUint64(nil, uint64(n))[8-size:])
}

// numIn is the number that bytes tell.
func numIn(s string) int {
	n := 0
	for i := range len(s) {
		n = n<<8 | int(s[i])
	}
	return n
}

// full is a sector of one byte over and over.
func full(c int) string { return strings.Repeat(string([]byte{byte(c)}), 256) }

// image is one of noughts, but for some sectors: by turns a number and the byte that it is full of.
func image(size int, l ...int) []string {
	return with(slices.Repeat([]string{full(0)}, size), l...)
}

// with is an image some sectors of which are others.
func with(now []string, l ...int) []string {
	now = slices.Clone(now)
	for i := 0; i < len(l); i += 2 {
		now[l[i]] = full(l[i+1])
	}
	return now
}

// text is 256 bytes that no other k has.
func text(k int) string {
	b := make([]byte, 256)
	for i := range b {
		b[i] = byte(i*i/7 + 31*i + k)
	}
	copy(b[100:], num(k, 8))
	return string(b)
}

// crowded is an image in which no sector is one of noughts, and none like another.
func crowded(size, k int) []string {
	var now []string
	for i := range size {
		now = append(now, text(1+i+5000*k))
	}
	return now
}

// parts is what a frame says, whether it may or not.
type parts struct {
	kind, size, from, to int
	root                 string
	sectors              []api.Write
}

// text is a frame of these parts, with its check.
func (p parts) text() string {
	var b strings.Builder
	b.WriteString("RF" + num(p.kind, 1) + num(p.size, 2) + num(p.from, 4) + num(p.to, 4) + p.root + num(len(p.sectors), 2))
	for _, s := range p.sectors {
		b.WriteString(num(s.Sector, 2) + s.Bytes)
	}
	return checked(b.String())
}

// of is the sectors of these numbers, as an image has them.
func of(now []string, l ...int) []api.Write {
	var sectors []api.Write
	for _, i := range l {
		sectors = append(sectors, api.Write{Sector: i, Bytes: now[i]})
	}
	return sectors
}

// wholeOf is the frame that tells an image by the sectors of these numbers.
func wholeOf(number int, now []string, l ...int) parts {
	return parts{1, len(now), number, number, wantRoot(now), of(now, l...)}
}

// changeOf is the frame that tells an image by an earlier one and the sectors of these numbers.
func changeOf(from, to int, now []string, l ...int) parts {
	return parts{2, len(now), from, to, wantRoot(now), of(now, l...)}
}

// differ is the numbers of the sectors in which two images are not the same.
func differ(before, now []string) []int {
	var l []int
	for i := range now {
		if before[i] != now[i] {
			l = append(l, i)
		}
	}
	return l
}

// wantWhole and wantChange are the frames that the words ask for.
func wantWhole(number int, now []string) string {
	return wholeOf(number, now, differ(image(len(now)), now)...).text()
}

func wantChange(from int, before []string, to int, now []string) string {
	return changeOf(from, to, now, differ(before, now)...).text()
}

// wantWord is the word of a replica that has an image.
func wantWord(number int, now []string) string { return wordOf(number, wantRoot(now)) }

func wordOf(number int, root string) string { return checked("RW\x01" + num(number, 4) + root) }

// wordOfNothing is the word of a replica that has nothing.
var wordOfNothing = checked("RW\x00" + strings.Repeat("\x00", 36))

// readParts is what a text says, if it is as long as a frame must be, with the letters and the check of one.
func readParts(s string) (parts, bool) {
	if len(s) < 51 || s[:2] != "RF" || again(s) != s || len(s) != 51+258*numIn(s[45:47]) {
		return parts{}, false
	}
	p := parts{numIn(s[2:3]), numIn(s[3:5]), numIn(s[5:9]), numIn(s[9:13]), s[13:45], nil}
	for at := 47; at < len(s)-4; at += 258 {
		p.sectors = append(p.sectors, api.Write{Sector: numIn(s[at : at+2]), Bytes: s[at+2 : at+258]})
	}
	return p, true
}

// mayBe tells whether what a text says is a frame.
func (p parts) mayBe() bool {
	if p.size < 128 || p.size > 1024 || p.from < 1 || p.to > 65535 {
		return false
	}
	if !(p.kind == 1 && p.from == p.to || p.kind == 2 && p.from < p.to) {
		return false
	}
	last := -1
	for _, s := range p.sectors {
		if s.Sector <= last || s.Sector >= p.size || p.kind == 1 && s.Bytes == full(0) {
			return false
		}
		last = s.Sector
	}
	return true
}

// replicaModel is a replica by the chapter's words.
type replicaModel struct {
	number int
	image  []string
}

func (m *replicaModel) word() string {
	if m.number == 0 {
		return wordOfNothing
	}
	return wantWord(m.number, m.image)
}

func (m *replicaModel) take(frame string) (string, api.Errno) {
	p, isOne := readParts(frame)
	switch {
	case !isOne || !p.mayBe():
		return "", api.ErrReplicaFrame
	case p.to <= m.number:
		return m.word(), api.ErrReplicaOld
	case p.kind == 2 && (m.number == 0 || p.from != m.number || p.size != len(m.image)):
		return m.word(), api.ErrReplicaGap
	}
	made := slices.Clone(m.image)
	if p.kind == 1 {
		made = image(p.size)
	}
	for _, s := range p.sectors {
		made[s.Sector] = s.Bytes
	}
	if wantRoot(made) != p.root {
		return "", api.ErrReplicaRoot
	}
	m.number, m.image = p.to, made
	return m.word(), api.OK
}

// primaryModel is a primary by the chapter's words: all images that were noted, and which of them it keeps.
type primaryModel struct {
	all   [][]string // the image of number n at n - 1
	base  int
	notes []int
}

func (m *primaryModel) note(now []string) api.Errno {
	if !isImage(now) || len(m.all) > 0 && len(now) != len(m.all[0]) {
		return api.ErrReplicaImage
	}
	if len(m.all) == 65535 {
		return api.ErrArg
	}
	m.all = append(m.all, slices.Clone(now))
	m.notes = append(m.notes, len(m.all))
	if len(m.notes) > 8 {
		m.notes = []int{len(m.all)}
	}
	return api.OK
}

func (m *primaryModel) frames() []string {
	var l []string
	for k, number := range m.notes {
		before := m.base
		if k > 0 {
			before = m.notes[k-1]
		}
		if before == 0 {
			l = append(l, wantWhole(number, m.all[number-1]))
		} else {
			l = append(l, wantChange(before, m.all[before-1], number, m.all[number-1]))
		}
	}
	return l
}

func (m *primaryModel) confirm(word string) (int, api.Errno) {
	if len(word) != 43 || word[:2] != "RW" || again(word) != word || word[2] > 1 || word[2] == 0 && word != wordOfNothing {
		return 0, api.ErrReplicaFrame
	}
	number := numIn(word[3:7])
	isKept := number == m.base || slices.Contains(m.notes, number)
	switch {
	case word == wordOfNothing && m.base != 0:
		return 0, api.ErrReplicaOld
	case word == wordOfNothing:
		return len(m.notes), api.OK
	case number < 1 || number > len(m.all):
		return 0, api.ErrReplicaGap
	case number < m.base:
		return 0, api.ErrReplicaOld
	case isKept && wordOf(number, wantRoot(m.all[number-1])) != word:
		return 0, api.ErrReplicaRoot
	case isKept:
		m.base = number
		m.notes = slices.DeleteFunc(m.notes, func(n int) bool { return n <= number })
	default:
		m.base = 0
		m.notes = []int{m.notes[len(m.notes)-1]}
	}
	return len(m.notes), api.OK
}

// isImage tells whether a list is one.
func isImage(l []string) bool {
	return len(l) >= 128 && len(l) <= 1024 && !slices.ContainsFunc(l, func(s string) bool { return len(s) != 256 })
}

// triedPrimary is a primary that is held against its model at each call, and behind it by the frames that it says.
type triedPrimary struct {
	t     *testing.T
	is    *replica.Primary
	model *primaryModel
}

// tryPrimary makes one of a first image, and notes others.
func tryPrimary(t *testing.T, images ...[]string) triedPrimary {
	t.Helper()
	is, errno := replica.NewPrimary(images[0])
	if is == nil || errno != api.OK {
		t.Fatalf("NewPrimary of %d sectors = %v, %d", len(images[0]), is, errno)
	}
	p := triedPrimary{t, is, &primaryModel{}}
	p.model.note(images[0])
	p.stands("NewPrimary")
	for _, now := range images[1:] {
		p.notes(now, api.OK)
	}
	return p
}

func (p triedPrimary) stands(behind string) {
	p.t.Helper()
	if got, want := p.is.Frames(), p.model.frames(); !slices.Equal(got, want) {
		p.t.Fatalf("behind %s: Frames = %q, want %q", behind, shown(got), shown(want))
	}
}

// notes is a Note whose outcome the test says itself.
func (p triedPrimary) notes(now []string, want api.Errno) {
	p.t.Helper()
	if wanted := p.model.note(now); wanted != want {
		p.t.Fatalf("the model's Note of %d sectors = %d, want %d", len(now), wanted, want)
	}
	if got := p.is.Note(now); got != want {
		p.t.Fatalf("Note of %d sectors = %d, want %d", len(now), got, want)
	}
	p.stands("Note")
}

// confirm holds a Confirm against the model.
func (p triedPrimary) confirm(word string) (int, api.Errno) {
	p.t.Helper()
	got, errno := p.is.Confirm(word)
	want, wanted := p.model.confirm(word)
	if got != want || errno != wanted {
		p.t.Fatalf("Confirm(%x) = %d, %d, want %d, %d", word, got, errno, want, wanted)
	}
	p.stands("Confirm")
	return got, errno
}

// confirms and disbelieves are Confirms whose outcome the test says itself.
func (p triedPrimary) confirms(word string, left int) {
	p.t.Helper()
	if got, errno := p.confirm(word); got != left || errno != api.OK {
		p.t.Fatalf("Confirm(%x) = %d, %d, want %d, OK", word, got, errno, left)
	}
}

func (p triedPrimary) disbelieves(word string, want api.Errno) {
	p.t.Helper()
	if got, errno := p.confirm(word); got != 0 || errno != want {
		p.t.Fatalf("Confirm(%x) = %d, %d, want error %d", word, got, errno, want)
	}
}

// triedReplica is a replica that is held against its model at each call, and behind it by what it tells of itself.
type triedReplica struct {
	t     *testing.T
	is    *replica.Replica
	model *replicaModel
}

func tryReplica(t *testing.T) triedReplica {
	t.Helper()
	r := triedReplica{t, replica.NewReplica(), &replicaModel{}}
	if r.is == nil {
		t.Fatal("NewReplica makes none")
	}
	r.stands("NewReplica")
	return r
}

// having is a replica that has an image.
func having(t *testing.T, number int, now []string) triedReplica {
	t.Helper()
	r := tryReplica(t)
	r.takes(wantWhole(number, now))
	return r
}

func (r triedReplica) stands(behind string) {
	r.t.Helper()
	want := api.OK
	if r.model.number == 0 {
		want = api.ErrReplicaNone
	}
	if got, errno := r.is.Number(); got != r.model.number || errno != want {
		r.t.Fatalf("behind %s: Number = %d, %d, want %d, %d", behind, got, errno, r.model.number, want)
	}
	if got, errno := r.is.Image(); !slices.Equal(got, r.model.image) || errno != want {
		r.t.Fatalf("behind %s: Image = %d sectors, %d, want those of the number %d, %d", behind, len(got), errno, r.model.number, want)
	}
	d, errno := r.is.Promote()
	if errno != want || (d == nil) != (want != api.OK) {
		r.t.Fatalf("behind %s: Promote = %v, %d, want %d", behind, d != nil, errno, want)
	}
	if d != nil && !slices.Equal(d.Image(), r.model.image) {
		r.t.Fatalf("behind %s: what is promoted is not the number %d", behind, r.model.number)
	}
}

// take holds a Take against the model.
func (r triedReplica) take(frame string) (string, api.Errno) {
	r.t.Helper()
	got, errno := r.is.Take(frame)
	want, wanted := r.model.take(frame)
	if got != want || errno != wanted {
		r.t.Fatalf("Take(%s) = %x, %d, want %x, %d", show(frame), got, errno, want, wanted)
	}
	r.stands("Take")
	return got, errno
}

// show is what a text says, if it is like a frame, else its bytes.
func show(frame string) string {
	if p, isOne := readParts(frame); isOne {
		return fmt.Sprintf("kind %d, %d sectors, %d to %d, %d told", p.kind, p.size, p.from, p.to, len(p.sectors))
	}
	return fmt.Sprintf("%d bytes %.64x", len(frame), frame)
}

// shown is what frames say.
func shown(frames []string) []string {
	var l []string
	for _, s := range frames {
		l = append(l, show(s))
	}
	return l
}

// takes, refuses and answers are Takes whose outcome the test says itself: of a frame that is taken; of one that is refused without a word; of one that is refused with the word of what the replica has.
func (r triedReplica) takes(frame string) {
	r.t.Helper()
	if _, errno := r.take(frame); errno != api.OK {
		r.t.Fatalf("Take(%s) = %d", show(frame), errno)
	}
}

func (r triedReplica) refuses(frame string, want api.Errno) {
	r.t.Helper()
	if word, errno := r.take(frame); word != "" || errno != want {
		r.t.Fatalf("Take(%s) = %x, %d, want error %d and no word", show(frame), word, errno, want)
	}
}

func (r triedReplica) answers(frame string, want api.Errno) {
	r.t.Helper()
	if word, errno := r.take(frame); word != r.model.word() || errno != want {
		r.t.Fatalf("Take(%s) = %x, %d, want error %d and its word", show(frame), word, errno, want)
	}
}

// turned is a text with one bit turned.
func turned(s string, at, bit int) string {
	b := []byte(s)
	b[at] ^= 1 << bit
	return string(b)
}
