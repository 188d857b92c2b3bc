package disk_test

import (
	"math"
	"slices"
	"testing"

	"strongbox/api"
	"strongbox/disk"
)

// notIn are no sectors of a disk of so many, the nearest ones first.
func notIn(size int) []int {
	return []int{size, -1, size + 1, -2, 2 * size, 65536, 65536 + 5, 1 << 32, math.MaxInt, math.MinInt}
}

func TestD2SizeIsThatOfNewOrLoad(t *testing.T) {
	for _, n := range sizes() {
		for _, d := range []*disk.Disk{made(t, n), loaded(t, image(n))} {
			wrote(t, d, api.Write{Sector: n - 1, Bytes: fill(1)})
			answers(t, "Arm", d.Arm(1), api.OK)
			if d.Size() != n {
				t.Errorf("Size = %d, want %d", d.Size(), n)
			}
			answers(t, "Flush", d.Flush(), api.ErrDead)
			if d.Size() != n {
				t.Errorf("Size of a dead disk = %d, want %d", d.Size(), n)
			}
			answers(t, "Crash", d.Crash(nil), api.OK)
			if d.Size() != n {
				t.Errorf("Size behind a crash = %d, want %d", d.Size(), n)
			}
		}
	}
}

func TestD2ReadTellsWhatWasWrittenLast(t *testing.T) {
	for _, n := range []int{128, 1024} {
		for _, i := range []int{0, 1, n - 2, n - 1} {
			d := made(t, n)
			for k := range 5 {
				wrote(t, d, api.Write{Sector: i, Bytes: text(k)})
				reads(t, d, i, text(k))
				if k%2 == 0 {
					answers(t, "Flush", d.Flush(), api.OK)
					reads(t, d, i, text(k))
				}
			}
			reads(t, d, (i+2)%n, fill(0))
		}
	}
}

func TestD2ReadRefusesSectors(t *testing.T) {
	for _, n := range []int{128, 1024} {
		d := made(t, n)
		for _, i := range notIn(n) {
			if s, e := d.Read(i); s != "" || e != api.ErrDiskSector {
				t.Errorf("Read(%d) of %d = %.8q, %d, want ErrDiskSector", i, n, s, e)
			}
		}
	}
}

func TestD2ReadOfADeadDisk(t *testing.T) {
	d := dead(t, api.Write{Sector: 0, Bytes: text(0)})
	for _, i := range []int{0, 1, 127} {
		if s, e := d.Read(i); s != "" || e != api.ErrDead {
			t.Errorf("Read(%d) = %.8q, %d, want ErrDead", i, s, e)
		}
	}
	for _, i := range notIn(128) {
		if s, e := d.Read(i); s != "" || e != api.ErrDiskSector {
			t.Errorf("Read(%d) = %.8q, %d, want ErrDiskSector ahead of ErrDead", i, s, e)
		}
	}
}

// dead is a disk of 128 sectors that has died with these writes pending.
func dead(t *testing.T, l ...api.Write) *disk.Disk {
	t.Helper()
	d := made(t, 128)
	wrote(t, d, l...)
	answers(t, "Arm", d.Arm(1), api.OK)
	answers(t, "Flush", d.Flush(), api.ErrDead)
	return d
}

func TestD3WriteIsPendingUntilFlush(t *testing.T) {
	d := made(t, 128)
	wrote(t, d, api.Write{Sector: 0, Bytes: text(1)}, api.Write{Sector: 127, Bytes: text(2)}, api.Write{Sector: 0, Bytes: text(3)})
	if l := d.Image(); d.Pending() != 3 || !slices.Equal(l, blank(128)) {
		t.Fatalf("ahead of the flush: Pending = %d, an image of noughts: %v", d.Pending(), slices.Equal(l, blank(128)))
	}
	answers(t, "Flush", d.Flush(), api.OK)
	want := blank(128)
	want[0], want[127] = text(3), text(2)
	if !slices.Equal(d.Image(), want) || d.Pending() != 0 {
		t.Errorf("behind the flush %d are pending, or other sectors last", d.Pending())
	}
}

func TestD3WriteOfWhatIsThereIsAWrite(t *testing.T) {
	d := made(t, 128)
	wrote(t, d, api.Write{Sector: 9, Bytes: fill(0)}, api.Write{Sector: 9, Bytes: fill(0)})
	if d.Pending() != 2 || len(d.Trace()) != 2 {
		t.Errorf("Pending = %d, Trace = %v, want two writes", d.Pending(), d.Trace())
	}
}

func TestD3FlushOfNothingIsAnAct(t *testing.T) {
	d := loaded(t, image(128))
	answers(t, "Flush", d.Flush(), api.OK)
	answers(t, "Flush", d.Flush(), api.OK)
	m := newModel(image(128))
	m.acts = []api.Act{{Kind: api.ActFlush}, {Kind: api.ActFlush}}
	same(t, "Flush of nothing", d, m)
}

func TestD3FlushSettlesEachTime(t *testing.T) {
	d, m := made(t, 128), newModel(blank(128))
	for k := range 12 {
		for i := range k {
			answers(t, "Write", d.Write(7*i, text(100*k+i)), m.write(7*i, text(100*k+i)))
			answers(t, "Write", d.Write(3, text(50000+100*k+i)), m.write(3, text(50000+100*k+i)))
		}
		answers(t, "Flush", d.Flush(), m.flush())
		same(t, "behind a flush", d, m)
	}
}

// A wrong call leaves all as it was, on a disk that lives, on an armed one and on a dead one.
func TestD3WriteRefuses(t *testing.T) {
	d, m := loaded(t, image(128)), newModel(image(128))
	answers(t, "Write", d.Write(2, text(1)), m.write(2, text(1)))
	refuses(t, d, m)
	answers(t, "Arm", d.Arm(1), m.arm(1))
	refuses(t, d, m)
	answers(t, "Flush", d.Flush(), m.flush())
	refuses(t, d, m)
	answers(t, "Write", d.Write(0, fill(1)), api.ErrDead)
	same(t, "behind a Write of a dead disk", d, m)
}

// refuses makes all kinds of wrong writes.
func refuses(t *testing.T, d *disk.Disk, m *model) {
	t.Helper()
	for _, i := range notIn(128) {
		answers(t, "Write", d.Write(i, fill(1)), api.ErrDiskSector)
		for _, s := range notSectors() {
			answers(t, "Write of wrong bytes nowhere", d.Write(i, s), api.ErrDiskSector)
		}
	}
	for _, s := range notSectors() {
		answers(t, "Write", d.Write(0, s), api.ErrDiskBytes)
		answers(t, "Write", d.Write(127, s), api.ErrDiskBytes)
	}
	same(t, "behind refused writes", d, m)
}

func TestD3ActsOfADeadDisk(t *testing.T) {
	l := []api.Write{{Sector: 0, Bytes: text(0)}, {Sector: 127, Bytes: text(1)}}
	d := dead(t, l...)
	for range 3 {
		answers(t, "Flush", d.Flush(), api.ErrDead)
		answers(t, "Write", d.Write(0, fill(9)), api.ErrDead)
	}
	m := newModel(blank(128))
	m.pending, m.dead = l, true
	m.acts = []api.Act{{Kind: 1, Sector: 0}, {Kind: 1, Sector: 127}}
	same(t, "dead", d, m)
}

func TestD4PendingCountsWrites(t *testing.T) {
	d := made(t, 128)
	for k := range 40 {
		if d.Pending() != k {
			t.Fatalf("Pending = %d, want %d", d.Pending(), k)
		}
		wrote(t, d, api.Write{Sector: k % 3, Bytes: text(k)})
	}
	answers(t, "Flush", d.Flush(), api.OK)
	wrote(t, d, api.Write{Sector: 5, Bytes: text(1)})
	if d.Pending() != 1 {
		t.Errorf("Pending behind a flush and a write = %d, want 1", d.Pending())
	}
}

func TestD4ADeadDiskTellsToo(t *testing.T) {
	d := made(t, 128)
	wrote(t, d, api.Write{Sector: 1, Bytes: text(1)})
	answers(t, "Flush", d.Flush(), api.OK)
	wrote(t, d, api.Write{Sector: 1, Bytes: text(2)}, api.Write{Sector: 2, Bytes: text(3)})
	answers(t, "Arm", d.Arm(1), api.OK)
	answers(t, "Write", d.Write(3, text(4)), api.ErrDead)
	want := blank(128)
	want[1] = text(1)
	if d.Pending() != 2 || !slices.Equal(d.Image(), want) {
		t.Errorf("of a dead disk: Pending = %d, want 2, or other sectors last", d.Pending())
	}
}

func TestR2ImagesAreTheCallers(t *testing.T) {
	d := made(t, 128)
	first := d.Image()
	wrote(t, d, api.Write{Sector: 0, Bytes: text(1)})
	answers(t, "Flush", d.Flush(), api.OK)
	if first[0] != fill(0) {
		t.Error("a flush changed an image that came out ahead of it")
	}
	second, third := d.Image(), d.Image()
	for i := range second {
		second[i] = "spoilt"
	}
	for i := range second[:cap(second)] {
		second[:cap(second)][i] = "spoilt"
	}
	want := blank(128)
	want[0] = text(1)
	if !slices.Equal(third, want) || !slices.Equal(d.Image(), want) {
		t.Error("what is written into an image is in another one")
	}
	reads(t, d, 0, text(1))
	reads(t, d, 1, fill(0))
}

func TestD7TraceTellsAllActs(t *testing.T) {
	d := made(t, 1024)
	if l := d.Trace(); len(l) != 0 {
		t.Fatalf("Trace of a new disk = %v", l)
	}
	wrote(t, d, api.Write{Sector: 1023, Bytes: fill(1)}, api.Write{Sector: 0, Bytes: fill(2)}, api.Write{Sector: 256, Bytes: fill(2)})
	answers(t, "Flush", d.Flush(), api.OK)
	answers(t, "Write", d.Write(1024, fill(1)), api.ErrDiskSector)
	answers(t, "Write", d.Write(3, "x"), api.ErrDiskBytes)
	wrote(t, d, api.Write{Sector: 1023, Bytes: fill(1)})
	want := []api.Act{{Kind: api.ActWrite, Sector: 1023}, {Kind: api.ActWrite}, {Kind: api.ActWrite, Sector: 256}, {Kind: api.ActFlush}, {Kind: api.ActWrite, Sector: 1023}}
	if l := d.Trace(); !slices.Equal(l, want) {
		t.Errorf("Trace = %v, want %v", l, want)
	}
}

func TestD7TraceNamesEachSector(t *testing.T) {
	d := made(t, 1024)
	var want []api.Act
	for i := range 1024 {
		wrote(t, d, api.Write{Sector: i, Bytes: fill(1)})
		want = append(want, api.Act{Kind: api.ActWrite, Sector: i})
	}
	if !slices.Equal(d.Trace(), want) {
		t.Error("a trace of writes to all sectors names others")
	}
}

func TestD7TraceLastsThroughDeathsAndCrashes(t *testing.T) {
	d := made(t, 128)
	var want []api.Act
	for k := range 5 {
		wrote(t, d, api.Write{Sector: k, Bytes: fill(1)})
		want = append(want, api.Act{Kind: api.ActWrite, Sector: k})
		answers(t, "Arm", d.Arm(2), api.OK)
		answers(t, "Flush", d.Flush(), api.OK)
		want = append(want, api.Act{Kind: api.ActFlush})
		answers(t, "Write", d.Write(99, fill(1)), api.ErrDead)
		answers(t, "Flush", d.Flush(), api.ErrDead)
		if !slices.Equal(d.Trace(), want) {
			t.Fatalf("Trace of a dead disk = %v, want %v", d.Trace(), want)
		}
		answers(t, "Crash", d.Crash(nil), api.OK)
		if !slices.Equal(d.Trace(), want) {
			t.Fatalf("Trace behind a crash = %v, want %v", d.Trace(), want)
		}
	}
}

func TestD7TraceOfALoadedDiskBeginsAnew(t *testing.T) {
	d := made(t, 128)
	wrote(t, d, api.Write{Sector: 1, Bytes: fill(1)})
	answers(t, "Flush", d.Flush(), api.OK)
	if l := loaded(t, d.Image()).Trace(); len(l) != 0 {
		t.Errorf("Trace = %v, want none", l)
	}
}

func TestR2TracesAreTheCallers(t *testing.T) {
	d := made(t, 128)
	for i := range 3 {
		wrote(t, d, api.Write{Sector: i, Bytes: fill(1)})
	}
	first, second := d.Trace(), d.Trace()
	for i := range first[:cap(first)] {
		first[:cap(first)][i] = api.Act{Kind: 7, Sector: 7}
	}
	wrote(t, d, api.Write{Sector: 3, Bytes: fill(1)})
	want := []api.Act{{Kind: 1}, {Kind: 1, Sector: 1}, {Kind: 1, Sector: 2}, {Kind: 1, Sector: 3}}
	if !slices.Equal(second, want[:3]) || !slices.Equal(d.Trace(), want) {
		t.Error("what is written into a trace is in another one")
	}
}
