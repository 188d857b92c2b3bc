package audit_test

import (
	"cmp"
	"slices"

	"strongbox/api"
)

// plain is an audit by the words of chapter 16, one thing after the other, with digests and checks of the library.
type plain struct {
	image                      []string
	bitmap, index, data, count int

	free, taken map[int]bool // places of which it is known
	stands      map[int]string
	times       map[int]int
	owner       map[int]string // of places: who
	mapped      map[string]int // how many blocks, by digests
	found       map[api.Finding]bool
	totals      api.Totals
}

// above is how many pages there are, of so many each.
func above(n, each int) int {
	pages := n / each
	if n%each > 0 {
		pages++
	}
	return pages
}

// plainOf is one of an image, without anything that was looked at.
func plainOf(image []string) *plain {
	p := &plain{
		image: image, free: map[int]bool{}, taken: map[int]bool{}, stands: map[int]string{}, times: map[int]int{},
		owner: map[int]string{}, mapped: map[string]int{}, found: map[api.Finding]bool{},
	}
	for n := 1; 27+above(n, 256)+above(n, 6)+n <= len(image); n++ {
		p.count = n
	}
	p.bitmap = 27
	p.index = p.bitmap + above(p.count, 256)
	p.data = p.index + above(p.count, 6)
	return p
}

// plainLook is what Look must answer.
func plainLook(image []string) ([]api.Finding, api.Totals, api.Errno) {
	if len(image) < 128 || len(image) > 1024 {
		return nil, api.Totals{}, api.ErrDiskSize
	}
	for _, s := range image {
		if len(s) != 256 {
			return nil, api.Totals{}, api.ErrDiskBytes
		}
	}
	p := plainOf(image)
	if !p.hasSuper() {
		return []api.Finding{{Kind: api.FindSuper}}, api.Totals{}, api.OK
	}
	p.totals.Capacity = p.count - 2
	if !p.isPage(1, 2, valueOf(image[1][4:8]), 1) || bodyOf(image[1]) != "\x00" {
		p.find(api.FindJournal, 1)
	}
	p.readBitmap()
	p.readIndex()
	p.readTenants()
	p.lookAtPlaces()
	return p.inOrder(), p.totals, api.OK
}

func (p *plain) find(kind, where int) { p.found[f(kind, where)] = true }

func (p *plain) inOrder() []api.Finding {
	var l []api.Finding
	for x := range p.found {
		l = append(l, x)
	}
	slices.SortFunc(l, func(a, b api.Finding) int {
		return cmp.Compare(a.Kind*1e6+a.Where, b.Kind*1e6+b.Where)
	})
	return l
}

func (p *plain) hasSuper() bool {
	body := ""
	for _, n := range []int{len(p.image), 19, p.bitmap, p.index, p.data, p.count, p.count - 2} {
		body += number(n, 4)
	}
	return p.image[0] == page(1, 0, body)
}

// isPage tells whether a sector is a page of a kind and number, with a body of so many bytes.
func (p *plain) isPage(sector, kind, n, size int) bool {
	s := p.image[sector]
	return s == page(kind, n, s[8:8+size])
}

func (p *plain) readBitmap() {
	for k := range p.index - p.bitmap {
		sector := p.bitmap + k
		isRight := p.isPage(sector, 3, k, 32)
		free, taken := []int{}, []int{}
		for i := range 256 {
			place, isSet := 256*k+i, p.image[sector][8+i/8]>>(i%8)&1 == 1
			switch {
			case place >= p.count && isSet:
				isRight = false
			case isSet:
				taken = append(taken, place)
			case place < p.count:
				free = append(free, place)
			}
		}
		if !isRight {
			p.find(api.FindBitmap, sector)
			continue
		}
		for _, i := range free {
			p.free[i] = true
		}
		for _, i := range taken {
			p.taken[i] = true
		}
	}
}

func (p *plain) readIndex() {
	for k := range p.data - p.index {
		sector := p.index + k
		isRight := p.isPage(sector, 4, k, 222)
		ahead := map[string]bool{}
		for _, digest := range p.stands {
			ahead[digest] = true
		}
		stands, times := map[int]string{}, map[int]int{}
		for j := range 6 {
			place, s := 6*k+j, p.image[sector][8+37*j:8+37*j+37]
			if s == noughts(37) {
				continue
			}
			digest, n := s[1:33], valueOf(s[33:])
			if s[0] != 1 || n < 1 || n > 65535 || ahead[digest] || place >= p.count {
				isRight = false
			}
			ahead[digest] = true
			stands[place], times[place] = digest, n
		}
		if !isRight {
			p.find(api.FindIndex, sector)
			continue
		}
		for place, digest := range stands {
			p.stands[place], p.times[place], p.owner[place] = digest, times[place], "chunk"
			p.totals.Chunks++
		}
	}
}

// volumesOf are those of a tenant's page, with its quota and charge; false, if it is not right.
func (p *plain) volumesOf(k int) ([][2]int, int, int, bool) {
	if !p.isPage(18+k, 5, k, 50) {
		return nil, 0, 0, false
	}
	b := bodyOf(p.image[18+k])
	if b == noughts(50) {
		return nil, 0, 0, true
	}
	quota, charge, n := valueOf(b[1:5]), valueOf(b[5:9]), int(b[9])
	if b[0] != 1 || quota > 65535 || charge > quota || n > 8 || b[10+5*n:] != noughts(40-5*n) {
		return nil, 0, 0, false
	}
	var l [][2]int
	last := -1
	for j := range n {
		volume, root := int(b[10+5*j]), valueOf(b[11+5*j:15+5*j])
		if volume <= last || volume > 99 || root > 1023 {
			return nil, 0, 0, false
		}
		l = append(l, [2]int{volume, root})
		last = volume
	}
	return l, quota, charge, true
}

func (p *plain) readTenants() {
	for k := 1; k <= 8; k++ {
		volumes, quota, charge, isRight := p.volumesOf(k)
		if !isRight {
			p.find(api.FindTenant, 18+k)
			continue
		}
		p.totals.Charged += charge
		p.totals.Promised += quota
		sum := 0
		for _, v := range volumes {
			sum += p.readVolume(100*k+v[0], v[1])
		}
		if sum != charge {
			p.find(api.FindCharge, k)
		}
	}
	if p.totals.Promised > p.count-2 {
		p.find(api.FindTenant, 0)
	}
}

// isRightRoot tells whether the root page of a number stands at a place.
func (p *plain) isRightRoot(n, place int) bool {
	if place < 0 || place >= p.count || !p.isPage(p.data+place, 6, n, 40) {
		return false
	}
	for l := range 20 {
		if valueOf(bodyOf(p.image[p.data+place])[2*l:2*l+2]) > p.count {
			return false
		}
	}
	return true
}

// isRightLeaf tells whether the leaf of a number stands at a place.
func (p *plain) isRightLeaf(n, place int) bool {
	if !p.isPage(p.data+place, 7, n, 241) {
		return false
	}
	b := bodyOf(p.image[p.data+place])
	for j := range 3 {
		if b[0]&(1<<j) == 0 && b[1+80*j:81+80*j] != noughts(80) {
			return false
		}
	}
	return b[0] >= 1 && b[0] <= 7
}

// isOwned tells whether a root or leaf is owned rightly, and lets it own its place.
func (p *plain) isOwned(who string, isRight bool, place int) bool {
	if !isRight || p.free[place] || p.owner[place] != "" {
		p.find(api.FindVolume, p.data+place)
		return false
	}
	p.owner[place] = who
	p.totals.Pages++
	return true
}

// readVolume goes over a volume; what is owned and mapped in it.
func (p *plain) readVolume(n, place int) int {
	if !p.isOwned("root", p.isRightRoot(n, place), place) {
		return 0
	}
	sum := 1
	for l := range 20 {
		at := valueOf(bodyOf(p.image[p.data+place])[2*l:2*l+2]) - 1
		if at < 0 || !p.isOwned("leaf", p.isRightLeaf(32*n+l, at), at) {
			continue
		}
		sum++
		b := bodyOf(p.image[p.data+at])
		for j := range 3 {
			if b[0]&(1<<j) != 0 {
				p.mapBlock(at, b[1+80*j:33+80*j])
				sum++
			}
		}
	}
	return sum
}

// mapBlock counts a block that a leaf maps to a digest.
func (p *plain) mapBlock(leaf int, digest string) {
	p.totals.Mapped++
	p.mapped[digest]++
	for _, d := range p.stands {
		if d == digest {
			return
		}
	}
	p.find(api.FindCount, p.data+leaf)
}

func (p *plain) lookAtPlaces() {
	for place := range p.count {
		if p.taken[place] && p.owner[place] == "" {
			p.find(api.FindLost, p.data+place)
		}
	}
	for place, digest := range p.stands {
		if p.times[place] != p.mapped[digest] {
			p.find(api.FindCount, p.data+place)
		}
		if p.free[place] || digestOf(p.image[p.data+place]) != digest {
			p.find(api.FindChunk, p.data+place)
		}
	}
}
