package journal_test

import (
	"encoding/binary"
	"hash/crc32"
	"math/rand"
	"slices"
	"strings"
	"testing"

	"strongbox/api"
	"strongbox/disk"
	"strongbox/journal"
)

// step is an act by the chapter's words: a write, or a flush, which has no bytes.
type step struct {
	sector int
	bytes  string
}

// page is a page as a sector, laid down byte by byte.
func page(kind, number int, body string) string {
	b := append([]byte("SB"), byte(kind), byte(len(body)))
	b = binary.BigEndian.AppendUint32(b, uint32(number))
	b = append(b, body...)
	b = append(b, make([]byte, 252-len(b))...)
	return string(binary.LittleEndian.AppendUint32(b, crc32.ChecksumIEEE(b)))
}

// body is that of a head: a first byte, and targets.
func body(first byte, targets ...int) string {
	b := []byte{first}
	for _, n := range targets {
		b = binary.BigEndian.AppendUint32(b, uint32(n))
	}
	return string(b)
}

func clearHead(number int) string { return page(2, number, "\x00") }

func setHead(number int, targets ...int) string { return page(2, number, body(1, targets...)) }

// upTo16 is a list of targets with the fill behind them.
func upTo16(targets ...int) []int {
	l := slices.Clone(targets)
	for len(l) < 16 {
		l = append(l, 18)
	}
	return l
}

func formatSteps() []step { return []step{{1, clearHead(0)}, {}} }

// redoSteps are those of an Open of a head that is set.
func redoSteps(number int, targets []int, records []string) []step {
	var l []step
	for i, n := range targets {
		l = append(l, step{n, records[i]})
	}
	return append(l, step{}, step{1, clearHead(number)}, step{})
}

// commitSteps are those of a commit.
func commitSteps(number int, l []api.Write) []step {
	targets := upTo16()
	records := slices.Repeat([]string{fill(0)}, 16)
	for i, w := range l {
		targets[i], records[i] = w.Sector, w.Bytes
	}
	var steps []step
	for i, s := range records {
		steps = append(steps, step{2 + i, s})
	}
	steps = append(steps, step{}, step{1, setHead(number, targets...)}, step{})
	return append(steps, redoSteps(number, targets, records)...)
}

// acts are steps as a disk tells them.
func acts(steps []step) []api.Act {
	l := []api.Act{}
	for _, s := range steps {
		if s.bytes == "" {
			l = append(l, api.Act{Kind: 2})
		} else {
			l = append(l, api.Act{Kind: 1, Sector: s.sector})
		}
	}
	return l
}

// plain is a disk without a life of its own: what lasts, and what does not yet.
type plain struct {
	lasting []string
	pending []api.Write
}

func plainly(image []string) *plain { return &plain{lasting: slices.Clone(image)} }

func (p *plain) do(steps []step) *plain {
	for _, s := range steps {
		if s.bytes == "" {
			p.crash(upTo(len(p.pending)))
		} else {
			p.pending = append(p.pending, api.Write{Sector: s.sector, Bytes: s.bytes})
		}
	}
	return p
}

func (p *plain) crash(keep []int) *plain {
	for n, w := range p.pending {
		if slices.Contains(keep, n) {
			p.lasting[w.Sector] = w.Bytes
		}
	}
	p.pending = nil
	return p
}

// upTo are the numbers below n.
func upTo(n int) []int {
	l := []int{}
	for i := range n {
		l = append(l, i)
	}
	return l
}

// fill is a sector's bytes, all the same.
func fill(b byte) string { return strings.Repeat(string([]byte{b}), 256) }

// text is a sector's bytes that have this number: no two numbers have the same ones.
func text(n int) string {
	b := make([]byte, 256)
	for i := range b {
		b[i] = byte(n>>(i%4*8)) ^ byte(7*i+1)
	}
	return string(b)
}

// image is one of so many sectors, each of its own bytes, with this head.
func image(n int, head string) []string {
	l := make([]string, n)
	for i := range l {
		l[i] = text(1000000 + i)
	}
	l[1] = head
	return l
}

// writes are some of these sectors, each of its own bytes.
func writes(sectors ...int) []api.Write {
	l := []api.Write{}
	for i, n := range sectors {
		l = append(l, api.Write{Sector: n, Bytes: text(2000 + 100*i + n)})
	}
	return l
}

func loaded(t *testing.T, l []string) *disk.Disk {
	t.Helper()
	d, e := disk.Load(l)
	if d == nil || e != api.OK {
		t.Fatalf("Load of %d = %v, %d", len(l), d, e)
	}
	return d
}

// opened is a journal that is found by an Open which must tell this.
func opened(t *testing.T, d *disk.Disk, wantAgain bool) *journal.Journal {
	t.Helper()
	j, again, e := journal.Open(d)
	if j == nil || again != wantAgain || e != api.OK {
		t.Fatalf("Open = %v, %v, %d, want a journal, %v, OK", j, again, e, wantAgain)
	}
	return j
}

// refused holds an Open that must not be OK against what it must answer.
func refused(t *testing.T, d *disk.Disk, want api.Errno) {
	t.Helper()
	if j, again, e := journal.Open(d); j != nil || again || e != want {
		t.Fatalf("Open = %v, %v, %d, want nil, false, %d", j, again, e, want)
	}
}

// clean is a disk of so many sectors with a clear head, and its journal.
func clean(t *testing.T, sectors, number int) (*disk.Disk, *journal.Journal) {
	t.Helper()
	d := loaded(t, image(sectors, clearHead(number)))
	return d, opened(t, d, false)
}

// answers holds an answer that is an error alone against what it must be.
func answers(t *testing.T, what string, got, want api.Errno) {
	t.Helper()
	if got != want {
		t.Fatalf("%s = %d, want %d", what, got, want)
	}
}

func numbers(t *testing.T, j *journal.Journal, want int) {
	t.Helper()
	if got := j.Next(); got != want {
		t.Fatalf("Next = %d, want %d", got, want)
	}
}

// did holds the acts behind the first ones against what they must be.
func did(t *testing.T, d *disk.Disk, from int, want []step) {
	t.Helper()
	if got := d.Trace()[from:]; !slices.Equal(got, acts(want)) {
		t.Fatalf("acts %v, want %v", got, acts(want))
	}
}

// stands holds what a disk keeps against what it must: what lasts, and how much does not.
func stands(t *testing.T, d *disk.Disk, p *plain) {
	t.Helper()
	for i, s := range d.Image() {
		if s != p.lasting[i] {
			t.Fatalf("sector %d lasts as %.16q, want %.16q", i, s, p.lasting[i])
		}
	}
	if d.Pending() != len(p.pending) {
		t.Fatalf("%d are pending, want %d", d.Pending(), len(p.pending))
	}
}

// dies lets the disk of each act's own die there, and looks at all that it did until then, with its bytes: at what lasts, and at what a Crash leaves of the rest.
func dies(t *testing.T, l []string, steps []step, call func(*disk.Disk, func()) api.Errno) {
	t.Helper()
	for at := 1; at <= len(steps)+1; at++ {
		for part := range 4 {
			d := loaded(t, l)
			want := api.ErrDead
			if at > len(steps) {
				want = api.OK
			}
			answers(t, "the call", call(d, func() { d.Arm(at) }), want)
			if d.Dead() != (want == api.ErrDead) {
				t.Fatalf("dying at %d: Dead is %v", at, d.Dead())
			}
			did(t, d, 0, steps[:at-1])
			p := plainly(l).do(steps[:at-1])
			stands(t, d, p)
			keep := []int{}
			for n := range d.Pending() {
				if part == 3 || n%3 < part {
					keep = append(keep, n)
				}
			}
			answers(t, "Crash", d.Crash(keep), api.OK)
			stands(t, d, p.crash(keep))
		}
	}
}

// picks are by chance some of so many pending writes.
func picks(r *rand.Rand, pending int) []int {
	l := []int{}
	for n := range pending {
		if r.Intn(2) == 0 {
			l = append(l, n)
		}
	}
	return l
}
