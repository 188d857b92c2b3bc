package audit_test

import (
	"strings"
	"testing"

	"strongbox/api"
)

// cases are changes of a furnished store's image, and what is found then.
type cases map[string]struct {
	do   func(l []string)
	want []api.Finding
}

func (c cases) run(t *testing.T) {
	t.Helper()
	for name, x := range c {
		finds(t, name, spoilt(t, x.do), x.want...)
	}
}

// one is a list of one finding.
func one(kind, where int) []api.Finding { return []api.Finding{f(kind, where)} }

func TestA1TheFurnishedStore(t *testing.T) {
	h := furnished(t)
	if x := finds(t, "as it is", h.d.Image()); x != furniture() {
		t.Errorf("totals %+v", x)
	}
	// It stands where the other tests take it to stand.
	want := []string{
		root(1, 7, map[int]int{0: 2, 1: 4}), text(10), leaf(1, 7, 0, digestOf(text(10)), digestOf(text(10))),
		text(11), leaf(1, 7, 1, digestOf(text(11))), root(2, 7, nil), root(2, 9, map[int]int{0: 9, 19: 7}),
		leaf(2, 9, 19, "", "", digestOf(text(10))), text(12), leaf(2, 9, 0, digestOf(text(12))),
	}
	for place, s := range want {
		if h.d.Image()[at(place)] != s {
			t.Errorf("place %d is another one", place)
		}
	}
}

// Then nothing else is looked at, whatever else is wrong, and all totals are 0.
func TestA1TheSuperPage(t *testing.T) {
	layout := []int{128, 19, 27, 28, 43, 85, 83}
	body := func(l []int) string {
		s := ""
		for _, n := range l {
			s += number(n, 4)
		}
		return s
	}
	supers := []string{
		noughts(256), strings.Repeat("x", 256), page(2, 0, body(layout)), page(0, 0, body(layout)), page(1, 1, body(layout)),
		page(1, 0, ""), page(1, 0, body(layout[:6])), page(1, 0, body(layout)[:27]), page(1, 0, body(layout)+"\x00"),
		page(1, 0, body([]int{129, 19, 27, 28, 43, 86, 84})), page(1, 0, body([]int{1024, 19, 27, 31, 173, 851, 849})),
		turned(page(1, 0, body(layout)), 2047), page(3, 0, noughts(32)),
	}
	for k := range layout {
		for _, more := range []int{-1, 1, 256} {
			l := append([]int{}, layout...)
			l[k] += more
			supers = append(supers, page(1, 0, body(l)))
		}
	}
	for _, super := range supers {
		image := furnished(t).d.Image()
		image[0] = super
		if x := finds(t, "by itself", image, f(api.FindSuper, 0)); x != (api.Totals{}) {
			t.Errorf("totals %+v", x)
		}
		for k := range image[1:] {
			image[1+k] = noughts(256)
		}
		if x := finds(t, "with all else", image, f(api.FindSuper, 0)); x != (api.Totals{}) {
			t.Errorf("totals %+v", x)
		}
	}
	image := furnished(t).d.Image()
	image[0] = page(1, 0, body(layout))
	finds(t, "as it must be", image)
}

// A head that is set is not right either, also where it would change nothing.
func TestA1TheHeadOfTheJournal(t *testing.T) {
	fill := "\x01" + strings.Repeat(number(18, 4), 16)
	for _, head := range []string{
		noughts(256), strings.Repeat("\xff", 256), page(2, 3, ""), page(2, 3, "\x01"), page(2, 3, "\x02"), page(2, 3, "\x00\x00"),
		page(2, 3, fill), page(2, 0, fill), page(2, 3, "\x00"+fill[1:]), page(1, 3, "\x00"), page(3, 3, "\x00"), page(0, 3, "\x00"),
		turned(page(2, 3, "\x00"), 64), page(3, 0, noughts(32)),
	} {
		image := furnished(t).d.Image()
		image[1] = head
		if x := finds(t, "a head that is not clear", image, f(api.FindJournal, 1)); x != furniture() {
			t.Errorf("totals %+v", x)
		}
	}
	for _, n := range []int{0, 1, 77, 65536, 4294967295} {
		image := furnished(t).d.Image()
		image[1] = page(2, n, "\x00")
		finds(t, "a head of another number", image)
	}
}

// What stands in the journal's records, in the fill, at free places and behind the data is nobody's.
func TestA1WhatIsNotLookedAt(t *testing.T) {
	image := furnished(t).d.Image()
	was := append([]string{}, image...)
	for _, sector := range []int{2, 9, 17, 18, at(10), at(50), at(84)} {
		for _, s := range []string{strings.Repeat("x", 256), was[0], was[1], was[19], was[27], was[28], was[at(0)], was[at(1)], was[at(2)]} {
			image[sector] = s
			finds(t, "what is not looked at", image)
		}
	}
	// Behind the data of a disk whose layout leaves one over.
	for n := 128; n <= 1024; n++ {
		p := plainOf(make([]string, n))
		if p.data+p.count == n {
			continue
		}
		image := formatted(t, n).d.Image()
		for sector := p.data + p.count; sector < n; sector++ {
			image[sector] = strings.Repeat("x", 256)
		}
		finds(t, "behind the data", image)
	}
}

func TestA1ThePagesOfTheBitmap(t *testing.T) {
	// It is not known then of any place whether it is taken: so none is lost, none is owned wrongly.
	for name, do := range map[string]func(l []string){
		"noughts":           func(l []string) { l[27] = noughts(256) },
		"another page":      func(l []string) { l[27] = l[28] },
		"another kind":      func(l []string) { renumber(l, 27, 4, 0) },
		"another number":    func(l []string) { renumber(l, 27, 3, 1) },
		"31 bytes":          func(l []string) { resize(l, 27, 31) },
		"33 bytes":          func(l []string) { resize(l, 27, 33) },
		"no bytes":          func(l []string) { resize(l, 27, 0) },
		"the bit 85":        func(l []string) { set(l, 27, 10, "\x20") },
		"the bit 87":        func(l []string) { set(l, 27, 10, "\x80") },
		"the bit 88":        func(l []string) { set(l, 27, 11, "\x01") },
		"the bit 255":       func(l []string) { set(l, 27, 31, "\x80") },
		"a bit is turned":   func(l []string) { l[27] = turned(l[27], 64) },
		"noughts, and more": func(l []string) { set(l, 27, 0, noughts(31)+"\x80") },
	} {
		if x := finds(t, name, spoilt(t, do), f(api.FindBitmap, 27)); x != furniture() {
			t.Errorf("%s: totals %+v", name, x)
		}
	}
	cases{
		"the last place": {func(l []string) { set(l, 27, 10, "\x10") }, one(api.FindLost, at(84))},
		"none is taken": {func(l []string) { set(l, 27, 0, noughts(32)) }, []api.Finding{
			f(6, at(0)), f(6, at(5)), f(6, at(6)), f(7, at(1)), f(7, at(3)), f(7, at(8)), f(9, at(1)), f(9, at(3)), f(9, at(8)), f(10, 1), f(10, 2)}},
		// What hangs on it is found as the page lets it be known.
		"and a chunk that is no more": {func(l []string) { l[27] = noughts(256); l[at(1)] = text(1) }, []api.Finding{f(3, 27), f(9, at(1))}},
		"and a slot that is no more":  {func(l []string) { l[27] = noughts(256); put(l, indexAt, 3, noughts(37)) }, []api.Finding{f(3, 27), f(7, at(4))}},
	}.run(t)
}

func TestA1ThePagesOfTheIndex(t *testing.T) {
	// The first page has the places 0 to 5: without it the chunks 10 and 11 stand nowhere, and their places are lost.
	gone := []api.Finding{f(4, 28), f(7, at(2)), f(7, at(4)), f(7, at(7)), f(8, at(1)), f(8, at(3))}
	a, b := digestOf(text(10)), digestOf(text(11))
	cases{
		"noughts":                      {func(l []string) { l[28] = noughts(256) }, gone},
		"a bit is turned":              {func(l []string) { l[28] = turned(l[28], 999) }, gone},
		"another page":                 {func(l []string) { l[28] = l[29] }, gone},
		"another kind":                 {func(l []string) { renumber(l, 28, 3, 0) }, gone},
		"another number":               {func(l []string) { renumber(l, 28, 4, 1) }, gone},
		"221 bytes":                    {func(l []string) { resize(l, 28, 221) }, gone},
		"223 bytes":                    {func(l []string) { resize(l, 28, 223) }, gone},
		"no bytes":                     {func(l []string) { resize(l, 28, 0) }, gone},
		"counted 0 times":              {func(l []string) { put(l, indexAt, 1, slot(a, 0)) }, gone},
		"counted 65536 times":          {func(l []string) { put(l, indexAt, 1, slot(a, 65536)) }, gone},
		"counted 2 to the 32 less 1":   {func(l []string) { put(l, indexAt, 1, slot(a, 4294967295)) }, gone},
		"a byte 2":                     {func(l []string) { put(l, indexAt, 1, "\x02"+slot(a, 3)[1:]) }, gone},
		"a byte 0":                     {func(l []string) { put(l, indexAt, 1, "\x00"+slot(a, 3)[1:]) }, gone},
		"a byte 255":                   {func(l []string) { put(l, indexAt, 1, "\xff"+slot(a, 3)[1:]) }, gone},
		"a byte 0, a count":            {func(l []string) { put(l, indexAt, 5, noughts(36)+"\x01") }, gone},
		"a byte 0, a digest":           {func(l []string) { put(l, indexAt, 5, "\x00"+a+noughts(4)) }, gone},
		"a byte 1 alone":               {func(l []string) { put(l, indexAt, 5, "\x01"+noughts(36)) }, gone},
		"a digest twice":               {func(l []string) { put(l, indexAt, 5, slot(a, 3)) }, gone},
		"a digest twice, side by side": {func(l []string) { put(l, indexAt, 0, slot(a, 3)) }, gone},
		"a digest twice, otherwise":    {func(l []string) { put(l, indexAt, 2, slot(b, 65535)) }, gone},
	}.run(t)
	cases{
		"counted 65535 times": {func(l []string) { put(l, indexAt, 1, slot(a, 65535)) }, one(7, at(1))},
		"counted once":        {func(l []string) { put(l, indexAt, 1, slot(a, 1)) }, one(7, at(1))},
		// The page of the place 8: its chunk 12 stands nowhere then.
		"a digest of a page ahead": {func(l []string) { put(l, indexAt, 6, slot(a, 3)) }, []api.Finding{f(4, 29), f(7, at(9)), f(8, at(8))}},
		"a digest of a page far ahead": {func(l []string) { put(l, indexAt, 84, slot(b, 1)) },
			one(4, 42)},
		// What stands on a page that is not right does not stand there: it may stand on another one.
		"a digest of a page that is not right": {func(l []string) { l[28] = noughts(256); put(l, indexAt, 10, slot(a, 3)) }, []api.Finding{
			f(4, 28), f(7, at(4)), f(8, at(1)), f(8, at(3)), f(9, at(10))}},
		"three pages, of which the second is not right": {func(l []string) {
			put(l, indexAt, 12, slot(a, 3))             // as at place 1
			put(l, indexAt, 13, slot(digestOf("x"), 1)) // so this one does not stand
			put(l, indexAt, 18, slot(digestOf("x"), 1)) // and this one does
		}, []api.Finding{f(4, 30), f(7, at(18)), f(9, at(18))}},
		// Noughts are a digest, too, though nobody has found such a chunk.
		"a digest of noughts": {func(l []string) { put(l, indexAt, 7, slot(noughts(32), 1)) }, []api.Finding{f(7, at(7)), f(9, at(7)), f(6, at(7)), f(10, 2), f(7, at(1))}},
	}.sorted().run(t)
}

// sorted puts what is wanted in order.
func (c cases) sorted() cases {
	for name, x := range c {
		x.want = inOrder(x.want...)
		c[name] = x
	}
	return c
}

func inOrder(l ...api.Finding) []api.Finding {
	p := plain{found: map[api.Finding]bool{}}
	for _, x := range l {
		p.found[x] = true
	}
	return p.inOrder()
}

// The last page of 85 places has the places 84 to 89, of which one is.
func TestA1SlotsOfNoPlace(t *testing.T) {
	for j := 1; j < 6; j++ {
		for _, s := range []string{slot(digestOf("x"), 1), slot(noughts(32), 65535), noughts(36) + "\x01", "\x01" + noughts(36)} {
			finds(t, "a slot of no place", spoilt(t, func(l []string) { put(l, indexAt, 84+j, s) }), f(api.FindIndex, 42))
		}
	}
	image := spoilt(t, func(l []string) { l[at(84)] = text(5); put(l, indexAt, 84, slot(digestOf(text(5)), 1)) })
	finds(t, "the slot of the last place", image, f(7, at(84)), f(9, at(84)))
	mark(image, 84, true)
	finds(t, "which is taken", image, f(7, at(84)))
	// Of pages whose places all are, the last one may stand.
	wide := formatted(t, 1024).d.Image()
	put(wide, 31, 850, slot(digestOf("x"), 1))
	finds(t, "of 1024 sectors", wide, f(7, 173+850), f(9, 173+850))
	put(wide, 31, 851, slot(digestOf("y"), 1))
	finds(t, "of 1024 sectors, one more", wide, f(4, 172))
}

// changedCount is a tenant's page that tells of so many volumes.
func changedCount(s string, n int) string {
	return page(5, valueOf(s[4:8]), changed(bodyOf(s), 9, number(n, 1)))
}

func TestA1TheTenantsPages(t *testing.T) {
	v := func(l ...int) []api.Volume {
		var out []api.Volume
		for i := 0; i < len(l); i += 2 {
			out = append(out, api.Volume{Number: l[i], Root: l[i+1]})
		}
		return out
	}
	for name, s := range map[string]string{
		"noughts": noughts(256), "another kind": page(4, 3, noughts(50)), "another number": page(5, 2, noughts(50)), "49 bytes": page(5, 3, noughts(49)),
		"51 bytes": page(5, 3, noughts(51)), "no bytes": page(5, 3, ""), "a byte 2": page(5, 3, "\x02"+noughts(49)), "a byte behind": page(5, 3, noughts(49)+"\x01"),
		"a quota of nobody": page(5, 3, noughts(4)+"\x01"+noughts(45)), "a charge of nobody": page(5, 3, noughts(8)+"\x01"+noughts(41)),
		"a quota of 65536": seat(3, 65536, 0), "a quota of 2 to the 32 less 1": seat(3, 4294967295, 0), "a charge above its quota": seat(3, 0, 1), "a charge far above": seat(3, 5, 65541),
		"a volume 100": seat(3, 0, 0, v(100, 20)...), "a volume 255": seat(3, 0, 0, v(255, 20)...), "a root 1024": seat(3, 0, 0, v(5, 1024)...), "a root -1": seat(3, 0, 0, v(5, -1)...),
		"a root 65536": seat(3, 0, 0, v(5, 65536)...), "volumes that fall": seat(3, 0, 0, v(6, 20, 5, 21)...), "a volume twice": seat(3, 0, 0, v(5, 20, 5, 21)...),
		"nine volumes": page(5, 3, "\x01"+noughts(8)+"\x09"+noughts(40)), "nine volumes, eight that rise": changedCount(seat(3, 8, 0, v(1, 20, 2, 20, 3, 20, 4, 20, 5, 20, 6, 20, 7, 20, 8, 20)...), 9),
		"one volume more": changedCount(seat(3, 8, 0, v(1, 20)...), 2), "one volume less": changedCount(seat(3, 8, 0, v(1, 20, 2, 0)...), 1),
		"255 volumes":            page(5, 3, "\x01"+noughts(8)+"\xff"+noughts(40)),
		"bytes behind no volume": page(5, 3, "\x01"+noughts(9)+"\x01"+noughts(39)), "a bit is turned": turned(page(5, 3, noughts(50)), 500),
	} {
		image := furnished(t).d.Image()
		image[21] = s
		if x := finds(t, name, image, f(api.FindTenant, 21)); x != furniture() {
			t.Errorf("%s: totals %+v", name, x)
		}
	}
	// Somebody's page that is not right: the charges and volumes are as though there were none.
	gone := []api.Finding{f(5, 20), f(7, at(1)), f(7, at(8)), f(8, at(5)), f(8, at(6)), f(8, at(7)), f(8, at(9))}
	for _, do := range []func(l []string){
		func(l []string) { l[20] = noughts(256) },
		func(l []string) { l[20] = l[19] },
		func(l []string) { set(l, 20, 5, number(34, 4)) },
		func(l []string) { set(l, 20, 49, "\x01") },
	} {
		x := finds(t, "the page of tenant 2", spoilt(t, do), gone...)
		if x != (api.Totals{Chunks: 3, Pages: 3, Mapped: 3, Charged: 6, Promised: 50, Capacity: 83}) {
			t.Errorf("totals %+v", x)
		}
	}
}

func TestA1TheQuotasOfAll(t *testing.T) {
	cases{
		"at the capacity":           {func(l []string) { l[21] = seat(3, 0, 0) }, nil},
		"one above":                 {func(l []string) { l[21] = seat(3, 1, 0) }, one(5, 0)},
		"one above, by another one": {func(l []string) { set(l, 19, 1, number(51, 4)) }, one(5, 0)},
		"one below":                 {func(l []string) { set(l, 19, 1, number(49, 4)) }, nil},
		"all that may be":           {func(l []string) { l[26] = seat(8, 65535, 0) }, one(5, 0)},
		// Of pages that are not right nothing is promised.
		"above, but one is not right":     {func(l []string) { l[26] = seat(8, 65535, 0, api.Volume{Number: 100}) }, one(5, 26)},
		"above, and another is not right": {func(l []string) { l[26] = noughts(256); l[25] = seat(7, 1, 0) }, []api.Finding{f(5, 0), f(5, 26)}},
	}.run(t)
	for sectors, capacity := range map[int]int{128: 83, 200: 145, 1024: 849} {
		image := formatted(t, sectors).d.Image()
		image[19], image[26] = seat(1, capacity-10, 0), seat(8, 10, 0)
		if x := finds(t, "at the capacity", image); x != (api.Totals{Promised: capacity, Capacity: capacity}) {
			t.Errorf("of %d sectors: %+v", sectors, x)
		}
		image[22] = seat(4, 1, 0)
		if x := finds(t, "one above", image, f(5, 0)); x != (api.Totals{Promised: capacity + 1, Capacity: capacity}) {
			t.Errorf("of %d sectors: %+v", sectors, x)
		}
	}
	// Eight times the most: no sum wraps round.
	image := formatted(t, 128).d.Image()
	for k := 1; k <= 8; k++ {
		image[18+k] = seat(k, 65535, 65535)
	}
	x := finds(t, "eight times the most", image, inOrder(f(5, 0), f(10, 1), f(10, 2), f(10, 3), f(10, 4), f(10, 5), f(10, 6), f(10, 7), f(10, 8))...)
	if x != (api.Totals{Charged: 8 * 65535, Promised: 8 * 65535, Capacity: 83}) {
		t.Errorf("totals %+v", x)
	}
}
