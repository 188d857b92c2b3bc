package audit_test

import (
	"math/rand"
	"slices"
	"sync"
	"testing"

	"strongbox/api"
	"strongbox/audit"
	"strongbox/server"
)

// named are the sectors of an image in which one bit that is turned must be found: those ahead of the data but the records and the fill, and of the data those that are taken.
func named(image []string) []int {
	l := []int{0, 1}
	p := plainOf(image)
	for sector := 19; sector < p.data; sector++ {
		l = append(l, sector)
	}
	for place := range p.count {
		if plainTaken(image)[place] {
			l = append(l, p.data+place)
		}
	}
	return l
}

// isFound tells whether there is a finding in an image with one bit turned, and it tells of the bit's sector.
func isFound(image []string, sector, bit int) bool {
	l := slices.Clone(image)
	l[sector] = turned(l[sector], bit)
	found, _, e := audit.Look(l)
	return e == api.OK && slices.ContainsFunc(found, func(x api.Finding) bool { return x.Where == sector })
}

// turns turns bits of all sectors that are named, one at a time: of each those of which pick tells. Many at once, for there are many.
func turns(t *testing.T, image []string, pick func(r *rand.Rand) []int) int {
	t.Helper()
	var wait sync.WaitGroup
	room := make(chan int, 8)
	count := 0
	for _, sector := range named(image) {
		bits := pick(rand.New(rand.NewSource(int64(sector))))
		count += len(bits)
		wait.Add(1)
		room <- sector
		go func() {
			defer wait.Done()
			for _, bit := range bits {
				if !isFound(image, sector, bit) {
					t.Errorf("bit %d of sector %d is not found", bit, sector)
				}
			}
			<-room
		}()
	}
	wait.Wait()
	return count
}

// Each bit of each sector that is named.
func TestA5EachBitOfAFurnishedStore(t *testing.T) {
	image := furnished(t).d.Image()
	if n := turns(t, image, func(*rand.Rand) []int { return upTo(2048) }); n != 2048*(2+8+1+15+10) {
		t.Errorf("%d bits", n)
	}
}

// Some bits of each sector, of stores of other sizes: the first and the last of the page and of its parts, and some by chance.
func TestA5SomeBitsOfOtherStores(t *testing.T) {
	pick := func(r *rand.Rand) []int {
		l := []int{0, 15, 16, 23, 24, 31, 32, 63, 64, 71, 72, 2015, 2016, 2047}
		for range 4 {
			l = append(l, r.Intn(2048))
		}
		return l
	}
	for _, sectors := range []int{129, 330, 1024} {
		h := formatted(t, sectors)
		turns(t, h.d.Image(), pick)
		layout, _ := server.LayoutOf(sectors)
		h.asks(0, add(3, layout.Capacity-10), api.Done)
		h.asks(0, add(5, 10), api.Done)
		h.asks(5, vol(5), api.Done)
		h.asks(3, vol(5), api.Done)
		for b := range 60 {
			h.sends(3, upload(5, b, b%20))
			h.sends(5, upload(5, b, b%7))
		}
		h.rests("ahead of it")
		turns(t, h.d.Image(), pick)
	}
}

// Behind a crash and an Open, too.
func TestA5SomeBitsBehindACrash(t *testing.T) {
	h := furnished(t)
	isOK(t, "Arm", h.d.Arm(25))
	h.sends(1, upload(7, 30, 40))
	isOK(t, "Crash", h.d.Crash([]int{1, 2}))
	h.open()
	h.rests("behind Open")
	turns(t, h.d.Image(), func(r *rand.Rand) []int { return r.Perm(2048)[:40] })
}

// What is not named is not looked at: a bit that is turned there is not found.
func TestA5OtherSectors(t *testing.T) {
	image := furnished(t).d.Image()
	r := rand.New(rand.NewSource(5))
	for sector := range image {
		if slices.Contains(named(image), sector) {
			continue
		}
		was := image[sector]
		image[sector] = turned(was, r.Intn(2048))
		finds(t, "of a sector that is not named", image)
		image[sector] = was
	}
}
