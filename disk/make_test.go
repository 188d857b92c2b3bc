package disk_test

import (
	"math"
	"slices"
	"strings"
	"testing"

	"strongbox/api"
	"strongbox/disk"
)

// notSizes are no numbers of sectors, the nearest ones first.
func notSizes() []int {
	return []int{127, 1025, 0, 1, -1, -128, 126, 1026, 1 << 20, 1<<32 + 128, math.MaxInt, math.MinInt}
}

func sizes() []int { return []int{128, 129, 256, 1000, 1023, 1024} }

func TestD1NewIsBlank(t *testing.T) {
	for _, n := range sizes() {
		same(t, "New", made(t, n), newModel(blank(n)))
	}
}

func TestD1NewRefusesSizes(t *testing.T) {
	for _, n := range notSizes() {
		if d, e := disk.New(n); d != nil || e != api.ErrDiskSize {
			t.Errorf("New(%d) = %v, %d, want nil, ErrDiskSize", n, d, e)
		}
	}
}

func TestD1NewIsNotArmed(t *testing.T) {
	for _, d := range []*disk.Disk{made(t, 128), loaded(t, image(128))} {
		for i := range 300 {
			wrote(t, d, api.Write{Sector: i % 128, Bytes: text(i)})
			answers(t, "Flush", d.Flush(), api.OK)
		}
	}
}

func TestD1LoadHoldsTheImage(t *testing.T) {
	for _, n := range sizes() {
		l := image(n)
		same(t, "Load", loaded(t, l), newModel(l))
	}
}

func TestD1LoadRefusesSizes(t *testing.T) {
	for _, n := range []int{0, 1, 126, 127, 1025, 1026, 4096} {
		if d, e := disk.Load(slices.Repeat([]string{fill(1)}, n)); d != nil || e != api.ErrDiskSize {
			t.Errorf("Load of %d = %v, %d, want nil, ErrDiskSize", n, d, e)
		}
	}
	if d, e := disk.Load(nil); d != nil || e != api.ErrDiskSize {
		t.Errorf("Load(nil) = %v, %d, want nil, ErrDiskSize", d, e)
	}
}

// notSectors are texts that no sector can hold.
func notSectors() []string {
	return []string{fill(1)[1:], fill(1) + "\x00", "", "x", strings.Repeat("ab", 256), strings.Repeat("é", 256), strings.Repeat("x", 65536+256)}
}

func TestD1LoadRefusesBytes(t *testing.T) {
	for _, n := range []int{128, 1024} {
		for _, at := range []int{0, 1, n / 2, n - 2, n - 1} {
			for _, s := range notSectors() {
				l := image(n)
				l[at] = s
				if d, e := disk.Load(l); d != nil || e != api.ErrDiskBytes {
					t.Errorf("Load of %d, text %d of %d bytes = %v, %d, want nil, ErrDiskBytes", n, at, len(s), d, e)
				}
			}
		}
	}
}

func TestD1LoadTellsTheSizeAheadOfTheBytes(t *testing.T) {
	for _, n := range []int{1, 127, 1025} {
		if d, e := disk.Load(slices.Repeat([]string{"x"}, n)); d != nil || e != api.ErrDiskSize {
			t.Errorf("Load of %d wrong texts = %v, %d, want nil, ErrDiskSize", n, d, e)
		}
	}
}

func TestD1LoadTakesRunesAsBytes(t *testing.T) {
	l := image(128)
	l[3] = strings.Repeat("é", 128)
	l[4] = strings.Repeat("\xff", 256)
	same(t, "Load", loaded(t, l), newModel(l))
}

func TestR2LoadKeepsNotItsList(t *testing.T) {
	l := image(140)
	was := slices.Clone(l)
	d := loaded(t, l[:130])
	wrote(t, d, api.Write{Sector: 5, Bytes: text(1)}, api.Write{Sector: 129, Bytes: text(2)})
	answers(t, "Flush", d.Flush(), api.OK)
	if !slices.Equal(l, was) {
		t.Error("what was flushed stands in the list that was handed in, or in its spare room")
	}
	for i := range l {
		l[i] = "spoilt"
	}
	reads(t, d, 4, was[4])
	if d.Image()[6] != was[6] {
		t.Error("what is written into the list behind a Load is in the image")
	}
}
