package server_test

import (
	"math/rand"
	"slices"
	"testing"

	"strongbox/api"
	"strongbox/disk"
	"strongbox/server"
)

// deed is an act with its bytes.
type deed struct {
	api.Act
	bytes string
}

// formatting is what Format does, by the chapter's words.
func formatting(sectors int) []deed {
	m := newModel(sectors)
	var l []deed
	write := func(sector int, s string) {
		l = append(l, deed{api.Act{Kind: api.ActWrite, Sector: sector}, s})
	}
	flush := func() { l = append(l, deed{Act: api.Act{Kind: api.ActFlush}}) }
	write(0, noughts(256))
	flush()
	write(1, page(2, 0, "\x00"))
	flush()
	for i, s := range slices.Concat(m.tenantPages(), m.ground.bitmapPages(), m.ground.indexPages()) {
		write(19+i, s)
	}
	flush()
	write(0, m.ground.super())
	flush()
	return l
}

// actsOf are deeds without their bytes.
func actsOf(l []deed) []api.Act {
	var acts []api.Act
	for _, x := range l {
		acts = append(acts, x.Act)
	}
	return acts
}

// unflushed are the deeds that are pending behind these.
func unflushed(l []deed) []deed {
	for n := len(l); n > 0; n-- {
		if l[n-1].Kind == api.ActFlush {
			return l[n:]
		}
	}
	return l
}

// done is an image behind writes.
func done(image []string, l []deed) []string {
	image = slices.Clone(image)
	for _, x := range l {
		if x.Kind == api.ActWrite {
			image[x.Sector] = x.bytes
		}
	}
	return image
}

// filled is an image of which no sector is a page.
func filled(sectors int) []string {
	var l []string
	for i := range sectors {
		l = append(l, text(i+5000))
	}
	return l
}

// earlier are images that are formatted: noughts, any bytes, and stores.
func earlier(t *testing.T) [][]string {
	t.Helper()
	return [][]string{newDisk(t, 128).Image(), filled(131), furnished(t, 128).d.Image(), furnished(t, 400).d.Image(), newDisk(t, 1024).Image()}
}

func TestV2TheActsOfAFormat(t *testing.T) {
	for _, image := range earlier(t) {
		want := formatting(len(image))
		d := loaded(t, image)
		answers(t, "Format", server.Format(d), api.OK)
		if !slices.Equal(d.Trace(), actsOf(want)) {
			t.Fatalf("acts %v, want %v", d.Trace(), actsOf(want))
		}
		if d.Pending() != 0 || !slices.Equal(d.Image(), done(image, want)) {
			t.Fatal("other sectors last than must")
		}
	}
}

func TestV2TheExampleOf31Acts(t *testing.T) {
	d := newDisk(t, 128)
	answers(t, "Format", server.Format(d), api.OK)
	var kinds []int
	for _, a := range d.Trace() {
		kinds = append(kinds, a.Kind)
	}
	want := slices.Concat([]int{1, 2, 1, 2}, slices.Repeat([]int{1}, 8+1+15), []int{2, 1, 2})
	if len(want) != 31 || !slices.Equal(kinds, want) {
		t.Errorf("acts of the kinds %v", kinds)
	}
}

func TestV2AFormattedDiskHasAnEmptyStore(t *testing.T) {
	for _, image := range earlier(t) {
		d := loaded(t, image)
		answers(t, "Format", server.Format(d), api.OK)
		isEmpty(t, d)
		// Once more, with something in it.
		b := &box{T: t, d: d, m: newModel(len(image))}
		b.open()
		b.does(0, add(1, 10))
		b.does(1, vol(1))
		b.does(1, upload(1, 1, 1, 1))
		answers(t, "Format", server.Format(d), api.OK)
		isEmpty(t, d)
	}
}

// isEmpty looks at a disk with an empty store.
func isEmpty(t *testing.T, d *disk.Disk) {
	t.Helper()
	b := &box{T: t, d: d, m: newModel(d.Size())}
	b.open()
	for k := 1; k <= 8; k++ {
		b.does(0, look(k))
		b.does(k, stat())
	}
	if want := b.m.totals(); want != b.totals() || want != (api.Totals{Capacity: want.Capacity}) {
		t.Fatalf("Totals = %+v", b.totals())
	}
	if g := b.m.ground; !slices.Equal(d.Image()[19:g.data], b.m.image()[:g.data-19]) {
		t.Fatal("the disk is not what it must be")
	}
}

func TestV2ADeadDisk(t *testing.T) {
	d := furnished(t, 128).d
	kill(t, d)
	acts, image := len(d.Trace()), d.Image()
	for range 2 {
		answers(t, "Format", server.Format(d), api.ErrDead)
	}
	if len(d.Trace()) != acts || d.Pending() != 0 || !slices.Equal(d.Image(), image) {
		t.Error("a dead disk did something")
	}
	answers(t, "Format of no disk", server.Format(nil), api.ErrDead)
}

// kill lets a disk die, with nothing pending.
func kill(t *testing.T, d *disk.Disk) {
	t.Helper()
	answers(t, "Arm", d.Arm(1), api.OK)
	answers(t, "Flush", d.Flush(), api.ErrDead)
}

// Each act with its bytes: what is pending where the disk dies.
func TestV2EachActOfAFormatWithItsBytes(t *testing.T) {
	for _, image := range earlier(t)[:4] {
		want := formatting(len(image))
		for n := range want {
			d := loaded(t, image)
			answers(t, "Arm", d.Arm(n+1), api.OK)
			answers(t, "Format", server.Format(d), api.ErrDead)
			if !slices.Equal(d.Trace(), actsOf(want[:n])) || d.Pending() != len(unflushed(want[:n])) {
				t.Fatalf("dying at %d: acts %v", n+1, d.Trace())
			}
			answers(t, "Crash", d.Crash(upTo(d.Pending())), api.OK)
			if !slices.Equal(d.Image(), done(image, want[:n])) {
				t.Fatalf("dying at %d: other sectors last than must", n+1)
			}
		}
	}
}

// Whatever stays of a Format in which the disk died: no store, but where the chapter says otherwise.
func TestV2ADeathInAFormatLeavesNoStore(t *testing.T) {
	r := rand.New(rand.NewSource(1))
	for _, old := range []*box{furnished(t, 128), furnished(t, 330), {T: t, d: loaded(t, filled(128))}} {
		image := old.d.Image()
		want := formatting(len(image))
		for n := 1; n <= len(want); n++ {
			for _, keep := range keeps(r, len(unflushed(want[:n-1]))) {
				d := loaded(t, image)
				answers(t, "Arm", d.Arm(n), api.OK)
				answers(t, "Format", server.Format(d), api.ErrDead)
				_, e := server.Open(d)
				answers(t, "Open of a dead disk", e, api.ErrDead)
				answers(t, "Crash", d.Crash(keep), api.OK)
				behindADeath(t, d, old, n, len(want), keep)
			}
		}
	}
}

// behindADeath looks at a disk that died at the n-th of so many acts of a Format.
func behindADeath(t *testing.T, d *disk.Disk, old *box, n, acts int, keep []int) {
	t.Helper()
	switch {
	case n <= 2 && len(keep) == 0 && old.m != nil:
		b := &box{T: t, d: d, m: old.m}
		b.open()
		b.stands()
		b.does(1, read(5, 0))
		b.does(1, upload(7, 0, 50, 50))
	case n == acts && len(keep) > 0:
		isEmpty(t, d)
	default:
		_, e := server.Open(d)
		answers(t, "Open", e, api.ErrServerForm)
		if n%7 == 0 {
			answers(t, "Format", server.Format(d), api.OK)
			isEmpty(t, d)
		}
	}
}
