package disk_test

import (
	"math/rand"
	"slices"
	"strings"
	"testing"

	"strongbox/api"
	"strongbox/disk"
)

// model is a disk by the chapter's words alone: what lasts, the list of what is pending, which act is the last one.
type model struct {
	lasting []string
	pending []api.Write
	acts    []api.Act
	armed   bool
	ahead   int // acts that are still done, if it is armed
	dead    bool
}

func newModel(image []string) *model { return &model{lasting: slices.Clone(image)} }

func (m *model) read(i int) (string, api.Errno) {
	if i < 0 || i >= len(m.lasting) {
		return "", api.ErrDiskSector
	}
	if m.dead {
		return "", api.ErrDead
	}
	for _, w := range slices.Backward(m.pending) {
		if w.Sector == i {
			return w.Bytes, api.OK
		}
	}
	return m.lasting[i], api.OK
}

// spoilt tells whether the disk is dead, or dies of one more act.
func (m *model) spoilt() bool {
	switch {
	case m.dead:
	case m.armed && m.ahead == 0:
		m.dead = true
	case m.armed:
		m.ahead--
	}
	return m.dead
}

func (m *model) write(i int, s string) api.Errno {
	switch {
	case i < 0 || i >= len(m.lasting):
		return api.ErrDiskSector
	case len(s) != 256:
		return api.ErrDiskBytes
	case m.spoilt():
		return api.ErrDead
	}
	m.pending = append(m.pending, api.Write{Sector: i, Bytes: s})
	m.acts = append(m.acts, api.Act{Kind: 1, Sector: i})
	return api.OK
}

func (m *model) flush() api.Errno {
	if m.spoilt() {
		return api.ErrDead
	}
	for _, w := range m.pending {
		m.lasting[w.Sector] = w.Bytes
	}
	m.pending = nil
	m.acts = append(m.acts, api.Act{Kind: 2})
	return api.OK
}

func (m *model) crash(keep []int) api.Errno {
	for _, n := range keep {
		if n < 0 || n > len(m.pending)-1 {
			return api.ErrDiskPick
		}
	}
	for n, w := range m.pending {
		if slices.Contains(keep, n) {
			m.lasting[w.Sector] = w.Bytes
		}
	}
	m.pending, m.armed, m.dead = nil, false, false
	return api.OK
}

func (m *model) arm(n int) api.Errno {
	if n < 0 {
		return api.ErrArg
	}
	if m.dead {
		return api.ErrDead
	}
	m.armed, m.ahead = n > 0, n-1
	return api.OK
}

// fill is a sector's bytes, all the same.
func fill(b byte) string { return strings.Repeat(string([]byte{b}), 256) }

// text is a sector's bytes that have this number: no two numbers have the same ones.
func text(n int) string {
	b := []byte(strings.Repeat("....", 64))
	for i := range b {
		b[i] = byte(n>>(i%4*8)) ^ byte(7*i+1)
	}
	return string(b)
}

// blank is an image of so many sectors of noughts.
func blank(n int) []string { return slices.Repeat([]string{fill(0)}, n) }

// image is one of so many sectors, each of its own bytes.
func image(n int) []string {
	l := make([]string, n)
	for i := range l {
		l[i] = text(1000000 + i)
	}
	return l
}

func made(t *testing.T, n int) *disk.Disk {
	t.Helper()
	d, e := disk.New(n)
	if d == nil || e != api.OK {
		t.Fatalf("New(%d) = %v, %d", n, d, e)
	}
	return d
}

func loaded(t *testing.T, l []string) *disk.Disk {
	t.Helper()
	d, e := disk.Load(l)
	if d == nil || e != api.OK {
		t.Fatalf("Load of %d = %v, %d", len(l), d, e)
	}
	return d
}

// answers holds an answer that is an error alone against what it must be.
func answers(t *testing.T, what string, got, want api.Errno) {
	t.Helper()
	if got != want {
		t.Fatalf("%s = %d, want %d", what, got, want)
	}
}

// wrote makes writes that must be OK.
func wrote(t *testing.T, d *disk.Disk, l ...api.Write) {
	t.Helper()
	for _, w := range l {
		answers(t, "Write", d.Write(w.Sector, w.Bytes), api.OK)
	}
}

// reads holds what a sector reads as against what it must be.
func reads(t *testing.T, d *disk.Disk, i int, want string) {
	t.Helper()
	if s, e := d.Read(i); s != want || e != api.OK {
		t.Fatalf("Read(%d) = %.8q, %d, want %.8q, OK", i, s, e, want)
	}
}

// same holds all that a disk tells of itself against a model.
func same(t *testing.T, when string, d *disk.Disk, m *model) {
	t.Helper()
	if d.Size() != len(m.lasting) {
		t.Fatalf("%s: Size = %d, want %d", when, d.Size(), len(m.lasting))
	}
	if d.Pending() != len(m.pending) {
		t.Fatalf("%s: Pending = %d, want %d", when, d.Pending(), len(m.pending))
	}
	if d.Dead() != m.dead {
		t.Fatalf("%s: Dead = %v, want %v", when, d.Dead(), m.dead)
	}
	if l := d.Trace(); !slices.Equal(l, m.acts) {
		t.Fatalf("%s: Trace = %v, want %v", when, l, m.acts)
	}
	if !slices.Equal(d.Image(), m.lasting) {
		t.Fatalf("%s: Image is not what lasts", when)
	}
	for i := -1; i <= len(m.lasting); i++ {
		s, e := d.Read(i)
		if want, wantE := m.read(i); s != want || e != wantE {
			t.Fatalf("%s: Read(%d) = %.8q, %d, want %.8q, %d", when, i, s, e, want, wantE)
		}
	}
}

// pair is a disk, and the model that it must be like.
type pair struct {
	d *disk.Disk
	m *model
}

// sector is by chance one of a few, so that they are written several times, or none.
func sector(r *rand.Rand, size int) int {
	few := []int{0, 1, 2, 77, size - 2, size - 1}
	none := []int{-1, size, -1 << 63, 1<<63 - 1, size + 65536}
	if r.Intn(8) == 0 {
		return none[r.Intn(len(none))]
	}
	return few[r.Intn(len(few))]
}

// bytes is by chance a text for a sector, or one of another length.
func bytes(r *rand.Rand) string {
	s := text(r.Intn(1 << 30))
	switch r.Intn(16) {
	case 0:
		return s[1:]
	case 1:
		return s + "x"
	case 2:
		return ""
	}
	return s
}

// picks are by chance some of the pending writes, now and then with one that is none.
func picks(r *rand.Rand, pending int) []int {
	var l []int
	for range r.Intn(2*pending + 1) {
		l = append(l, r.Intn(pending))
	}
	if r.Intn(4) == 0 {
		none := []int{-1, pending, -1 << 63, 1<<63 - 1, pending + 4294967296}
		l = slices.Insert(l, r.Intn(len(l)+1), none[r.Intn(len(none))])
	}
	return l
}

// step does one thing by chance with a disk and with its model.
func (p pair) step(t *testing.T, r *rand.Rand) {
	t.Helper()
	switch k := r.Intn(20); {
	case k < 11:
		i, s := sector(r, len(p.m.lasting)), bytes(r)
		answers(t, "Write", p.d.Write(i, s), p.m.write(i, s))
	case k < 14:
		answers(t, "Flush", p.d.Flush(), p.m.flush())
	case k < 17:
		n := r.Intn(12) - 2
		answers(t, "Arm", p.d.Arm(n), p.m.arm(n))
	default:
		keep := picks(r, len(p.m.pending))
		answers(t, "Crash", p.d.Crash(keep), p.m.crash(keep))
	}
}

func TestD8AnyCallsAnswerAsTheModelDoes(t *testing.T) {
	for seed := range int64(30) {
		r := rand.New(rand.NewSource(seed))
		l := image(128 + r.Intn(20))
		pairs := []pair{{loaded(t, l), newModel(l)}, {made(t, 130), newModel(blank(130))}, {loaded(t, l), newModel(l)}}
		for range 200 {
			// All three are looked at, so that a disk is seen to be as it was while another one is used.
			pairs[r.Intn(len(pairs))].step(t, r)
			for _, p := range pairs {
				same(t, "behind a step", p.d, p.m)
			}
		}
	}
}
