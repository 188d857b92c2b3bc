package audit_test

import (
	"fmt"
	"math/rand"
	"slices"
	"testing"

	"strongbox/api"
)

// vandal changes images by chance: mostly so that the pages are pages still.
type vandal struct {
	*rand.Rand
	image []string
	p     *plain
}

// any is one of some numbers.
func (z *vandal) any(l ...int) int { return l[z.Intn(len(l))] }

// place is one, mostly at the front, where something stands.
func (z *vandal) place() int {
	return z.any(z.Intn(z.p.count), z.Intn(12), z.Intn(12), z.Intn(40), z.p.count-1)
}

// sector is one of all, mostly of those that are looked at.
func (z *vandal) sector() int {
	return z.any(z.Intn(len(z.image)), z.Intn(2), 19+z.Intn(8), z.p.bitmap, z.p.index+z.Intn(3), z.p.data+z.place())
}

// digest is one that stands somewhere, or nowhere.
func (z *vandal) digest() string {
	return []string{digestOf(text(z.Intn(8))), digestOf(text(z.Intn(3))), digestOf("x"), noughts(32), digestOf(z.image[z.p.data+z.place()])}[z.Intn(5)]
}

// spoilPage changes the bytes of a page as though they were a layer's own.
func (z *vandal) spoilPage() {
	sector := z.sector()
	s := z.image[sector]
	if s[:2] != "SB" || int(s[3]) > 244 || len(bodyOf(s)) == 0 {
		return
	}
	switch z.Intn(6) {
	case 0:
		renumber(z.image, sector, z.any(1, 2, 3, 4, 5, 6, 7), valueOf(s[4:8]))
	case 1:
		renumber(z.image, sector, int(s[2]), z.any(0, 1, valueOf(s[4:8])+1, 101, 3232))
	case 2:
		resize(z.image, sector, z.any(0, len(bodyOf(s))-1, min(len(bodyOf(s))+1, 244)))
	default:
		i := z.Intn(len(bodyOf(s)))
		set(z.image, sector, i, number(z.any(0, 1, 2, 255, int(bodyOf(s)[i])+1), 1))
	}
}

// spoilBits changes what the bitmap knows.
func (z *vandal) spoilBits() {
	if place := z.place(); z.p.isPage(z.p.bitmap+place/256, 3, place/256, 32) {
		mark(z.image, place, z.Intn(3) == 0)
	}
}

// spoilSlot changes what stands in the index.
func (z *vandal) spoilSlot() {
	place := z.place()
	if !z.p.isPage(z.p.index+place/6, 4, place/6, 222) {
		return
	}
	s := []string{noughts(37), slot(z.digest(), 1+z.Intn(4)), slot(z.digest(), z.any(0, 1, 65535, 65536)), number(z.Intn(4), 1) + z.digest() + number(1, 4)}[z.Intn(4)]
	put(z.image, z.p.index, place, s)
}

// spoilTenant lays another page down for a tenant.
func (z *vandal) spoilTenant() {
	k := 1 + z.Intn(8)
	var l []api.Volume
	for n := z.Intn(3); n < 9 && len(l) < z.Intn(5); n += z.Intn(4) {
		l = append(l, v(n, z.any(z.place(), z.place(), z.p.count, 1023, 1024)))
	}
	quota := z.any(0, 5, 20, z.p.count, 65535, 65536)
	z.image[18+k] = seat(k, quota, min(quota, z.Intn(8)), l...)
}

// spoilTree lays a root or a leaf down somewhere.
func (z *vandal) spoilTree() {
	tenant, volume := 1+z.Intn(3), z.Intn(3)
	sector := z.p.data + z.place()
	if z.Intn(2) == 0 {
		leaves := map[int]int{}
		for range z.Intn(4) {
			leaves[z.any(0, 1, 2, 19)] = z.any(z.place(), z.place(), z.place(), z.p.count, 65534)
		}
		z.image[sector] = root(tenant, volume, leaves)
		return
	}
	z.image[sector] = leaf(tenant, volume, z.any(0, 1, 2, 19), []string{"", z.digest()}[z.Intn(2)], []string{"", z.digest()}[z.Intn(2)], []string{"", z.digest()}[z.Intn(2)])
}

// spoilSector writes something else into a sector.
func (z *vandal) spoilSector() {
	sector := z.sector()
	switch z.Intn(4) {
	case 0:
		z.image[sector] = turned(z.image[sector], z.Intn(2048))
	case 1:
		z.image[sector] = text(z.Intn(8))
	case 2:
		z.image[sector] = z.image[z.sector()]
	default:
		if sector > 0 {
			other := 1 + z.Intn(len(z.image)-1)
			z.image[sector], z.image[other] = z.image[other], z.image[sector]
		}
	}
}

func (z *vandal) spoil() {
	[]func(){z.spoilPage, z.spoilPage, z.spoilBits, z.spoilSlot, z.spoilSlot, z.spoilTenant, z.spoilTree, z.spoilTree, z.spoilSector}[z.Intn(9)]()
}

// lived are stores in which some requests were done.
func lived(t *testing.T, r *rand.Rand) []string {
	t.Helper()
	h := formatted(t, []int{128, 128, 130, 330, 600}[r.Intn(5)])
	for k := 1; k <= 3; k++ {
		h.asks(0, add(k, 27), api.Done)
		for n := 1; n <= 2; n++ {
			if r.Intn(3) > 0 {
				h.asks(k, vol(n), api.Done)
			}
		}
	}
	for range r.Intn(30) {
		h.sends(1+r.Intn(3), upload(1+r.Intn(2), []int{0, 1, 2, 3, 4, 59}[r.Intn(6)], r.Intn(8)))
	}
	h.rests("ahead of it")
	return h.d.Image()
}

// Whatever is changed, and however much of it: the findings and totals are the model's.
func TestA1ChangesByChanceAgainstAPlainModel(t *testing.T) {
	came := map[int]int{}
	several := 0
	for seed := range int64(120) {
		r := rand.New(rand.NewSource(seed))
		base := lived(t, r)
		for n := range 60 {
			z := &vandal{Rand: r, image: slices.Clone(base)}
			z.p = plainOf(z.image)
			for range 1 + r.Intn(1+n/8) {
				z.spoil()
			}
			got, _, _ := agrees(t, fmt.Sprintf("seed %d, image %d", seed, n), z.image)
			kinds := map[int]int{}
			for _, x := range got {
				kinds[x.Kind]++
			}
			for kind := range kinds {
				came[kind]++
			}
			if len(kinds) > 4 {
				several++
			}
		}
	}
	for kind := 1; kind <= 10; kind++ {
		if came[kind] < 100 {
			t.Errorf("kind %d came %d times", kind, came[kind])
		}
	}
	if several < 300 {
		t.Errorf("five kinds at once came %d times", several)
	}
}

// Stores that nobody has made by requests: roots, leaves and slots laid down by chance, so that many own one place.
func TestA1CrowdedPlacesAgainstAPlainModel(t *testing.T) {
	base := formatted(t, 128).d.Image()
	owned := 0
	for seed := range int64(1500) {
		z := &vandal{Rand: rand.New(rand.NewSource(seed)), image: slices.Clone(base)}
		z.p = plainOf(z.image)
		for k := 1; k <= 3; k++ {
			var l []api.Volume
			for n := range 3 {
				l = append(l, v(n, z.Intn(9)))
			}
			z.image[18+k] = seat(k, 20, z.Intn(20), l...)
		}
		for place := range 14 {
			z.image[z.p.data+place] = root(1+z.Intn(3), z.Intn(3), map[int]int{0: 9 + z.Intn(5), z.any(0, 1, 19): z.Intn(14)})
			if place >= 9 {
				z.image[z.p.data+place] = leaf(1+z.Intn(3), z.Intn(3), 0, z.digest(), "", z.digest())
			}
			mark(z.image, place, z.Intn(5) > 0)
			if z.Intn(4) == 0 {
				put(z.image, z.p.index, place, slot(z.digest(), 1+z.Intn(3)))
			}
		}
		if z.Intn(6) == 0 {
			z.image[27] = noughts(256)
		}
		_, x, _ := agrees(t, fmt.Sprintf("seed %d", seed), z.image)
		owned += x.Pages
	}
	if owned < 1000 {
		t.Errorf("%d pages were owned rightly", owned)
	}
}
