package server_test

import (
	"maps"
	"slices"
	"strings"

	"strongbox/api"
	"strongbox/pack"
)

// ground is where what stands on a disk, by the words of the chapters 7 to 11 and 14: so it tells each byte of it.
type ground struct {
	sectors, bitmap, index, data, count int

	bytes  []string // of each place, as it was written last
	taken  []bool
	chunks map[string]int // places, by the chunks
	counts map[string]int
	roots  map[[2]int]int // places, by tenants and volumes
	leaves map[[3]int]int // and by leaves
}

// above is how many pages there are, of so many each.
func above(n, each int) int {
	pages := n / each
	if n%each > 0 {
		pages++
	}
	return pages
}

func newGround(sectors int) *ground {
	g := &ground{sectors: sectors, chunks: map[string]int{}, counts: map[string]int{}, roots: map[[2]int]int{}, leaves: map[[3]int]int{}}
	for n := 1; 19+8+above(n, 256)+above(n, 6)+n <= sectors; n++ {
		g.count = n
	}
	g.bitmap = 27
	g.index = g.bitmap + above(g.count, 256)
	g.data = g.index + above(g.count, 6)
	g.bytes = slices.Repeat([]string{noughts(256)}, g.count)
	g.taken = make([]bool, g.count)
	return g
}

func (g *ground) clone() *ground {
	c := *g
	c.bytes, c.taken = slices.Clone(g.bytes), slices.Clone(g.taken)
	c.chunks, c.counts = maps.Clone(g.chunks), maps.Clone(g.counts)
	c.roots, c.leaves = maps.Clone(g.roots), maps.Clone(g.leaves)
	return &c
}

// take takes the least free place.
func (g *ground) take() int {
	i := slices.Index(g.taken, false)
	g.taken[i] = true
	return i
}

func (g *ground) addVolume(k, n int) {
	i := g.take()
	g.roots[[2]int{k, n}] = i
	g.writeRoot(k, n)
}

func (g *ground) removeVolume(k, n int) {
	g.taken[g.roots[[2]int{k, n}]] = false
	delete(g.roots, [2]int{k, n})
}

// set maps a block of a volume in which this is mapped so far.
func (g *ground) set(k, n, b int, v map[int]block, to block) {
	if _, there := g.chunks[to.data]; !there {
		i := g.take()
		g.chunks[to.data] = i
		g.bytes[i] = to.data
	}
	g.counts[to.data]++
	leaf := [3]int{k, n, b / 3}
	if _, there := g.leaves[leaf]; !there {
		g.leaves[leaf] = g.take()
		g.writeRoot(k, n)
	}
	now := maps.Clone(v)
	now[b] = to
	g.writeLeaf(leaf, now)
	if was, mapped := v[b]; mapped {
		g.drop(was.data)
	}
}

// clear unmaps a block of a volume in which this is still mapped.
func (g *ground) clear(k, n, b int, v map[int]block, was block) {
	leaf := [3]int{k, n, b / 3}
	isLeft := false
	for other := range v {
		isLeft = isLeft || other/3 == b/3
	}
	if isLeft {
		g.writeLeaf(leaf, v)
	} else {
		g.taken[g.leaves[leaf]] = false
		delete(g.leaves, leaf)
		g.writeRoot(k, n)
	}
	g.drop(was.data)
}

func (g *ground) drop(data string) {
	g.counts[data]--
	if g.counts[data] == 0 {
		g.taken[g.chunks[data]] = false
		delete(g.chunks, data)
		delete(g.counts, data)
	}
}

func (g *ground) writeRoot(k, n int) {
	body := ""
	for l := range 20 {
		i, there := g.leaves[[3]int{k, n, l}]
		if there {
			body += number(i+1, 2)
		} else {
			body += number(0, 2)
		}
	}
	g.bytes[g.roots[[2]int{k, n}]] = page(6, 100*k+n, body)
}

func (g *ground) writeLeaf(leaf [3]int, v map[int]block) {
	marks, body := 0, ""
	for j := range 3 {
		b, mapped := v[3*leaf[2]+j]
		if mapped {
			marks |= 1 << j
			body += digestOf(b.data) + b.wrapped
		} else {
			body += noughts(80)
		}
	}
	g.bytes[g.leaves[leaf]] = page(7, 32*(100*leaf[0]+leaf[1])+leaf[2], number(marks, 1)+body)
}

// noughts are so many bytes 0.
func noughts(n int) string { return strings.Repeat("\x00", n) }

// number is a number by so many bytes.
func number(n, bytes int) string {
	s := ""
	for range bytes {
		s = string([]byte{byte(n)}) + s
		n >>= 8
	}
	return s
}

// page is a page as a sector.
func page(kind, n int, body string) string {
	s, e := pack.MakePage(api.Page{Kind: kind, Number: n, Body: body})
	if e != api.OK {
		panic(e)
	}
	return s
}

// super is the super page of a disk.
func (g *ground) super() string {
	body := ""
	for _, n := range []int{g.sectors, 19, g.bitmap, g.index, g.data, g.count, g.count - 2} {
		body += number(n, 4)
	}
	return page(1, 0, body)
}

// bitmapPages are the map's.
func (g *ground) bitmapPages() []string {
	var l []string
	for k := range above(g.count, 256) {
		body := make([]byte, 32)
		for i := range 256 {
			if place := 256*k + i; place < g.count && g.taken[place] {
				body[i/8] |= 1 << (i % 8)
			}
		}
		l = append(l, page(3, k, string(body)))
	}
	return l
}

// indexPages are the index's.
func (g *ground) indexPages() []string {
	slots := slices.Repeat([]string{noughts(37)}, 6*above(g.count, 6))
	for data, i := range g.chunks {
		slots[i] = "\x01" + digestOf(data) + number(g.counts[data], 4)
	}
	var l []string
	for k := range above(g.count, 6) {
		l = append(l, page(4, k, strings.Join(slots[6*k:6*k+6], "")))
	}
	return l
}

// tenantPages are the table's.
func (m *model) tenantPages() []string {
	var l []string
	for k := 1; k <= 8; k++ {
		body := ""
		if o := m.owners[k]; o != nil {
			body = "\x01" + number(o.quota, 4) + number(o.charge(), 4) + number(len(o.volumes), 1)
			for _, n := range o.numbers() {
				body += number(n, 1) + number(m.ground.roots[[2]int{k, n}], 4)
			}
		}
		l = append(l, page(5, k, body+noughts(50-len(body))))
	}
	return l
}

// image is each sector from 19 on, of a disk that had noughts ahead of its Format.
func (m *model) image() []string {
	g := m.ground
	l := slices.Concat(m.tenantPages(), g.bitmapPages(), g.indexPages(), g.bytes)
	return append(l, slices.Repeat([]string{noughts(256)}, g.sectors-g.data-g.count)...)
}
