package audit_test

import (
	"testing"

	"strongbox/api"
)

// v is a volume of a tenant's page.
func v(n, root int) api.Volume { return api.Volume{Number: n, Root: root} }

// noVolume is what is found if volume 7 of tenant 1 is not there, but for its root.
func noVolume(more ...api.Finding) []api.Finding {
	return inOrder(append(more, f(7, at(1)), f(7, at(3)), f(8, at(2)), f(8, at(4)), f(10, 1))...)
}

// A root is told by 4 bytes, 0 to 1023: a page that tells another one is not right. Count and more are no places.
func TestA1ARootThatIsNoPlace(t *testing.T) {
	for _, n := range []int{85, 86, 256, 1023} {
		image := spoilt(t, func(l []string) { l[19] = seat(1, 50, 6, v(7, n)) })
		x := finds(t, "no place", image, noVolume(f(6, at(n)), f(8, at(0)))...)
		if x != (api.Totals{Chunks: 3, Pages: 4, Mapped: 2, Charged: 12, Promised: 83, Capacity: 83}) {
			t.Errorf("root %d: totals %+v", n, x)
		}
	}
	for _, n := range []int{-1, -43, 1024, 65536, 1 << 31} {
		image := spoilt(t, func(l []string) { l[19] = seat(1, 50, 6, v(7, n)) })
		finds(t, "no number", image, f(5, 19), f(7, at(1)), f(7, at(3)), f(8, at(0)), f(8, at(2)), f(8, at(4)))
	}
	// Two volumes that tell the same: it is found once.
	image := formatted(t, 128).d.Image()
	image[19], image[20] = seat(1, 10, 0, v(1, 500), v(2, 500)), seat(2, 10, 0, v(1, 500), v(2, 85))
	finds(t, "four volumes", image, f(6, 43+85), f(6, 43+500))
	// The greatest place, and one more.
	image[19], image[20] = seat(1, 10, 1, v(1, 84)), seat(2, 0, 0)
	image[43+84] = root(1, 1, nil)
	mark(image, 84, true)
	if x := finds(t, "the last place", image); x != (api.Totals{Pages: 1, Charged: 1, Promised: 10, Capacity: 83}) {
		t.Errorf("totals %+v", x)
	}
	image[19] = seat(1, 10, 1, v(1, 85))
	finds(t, "one more", image, f(6, 43+85), f(8, 43+84), f(10, 1))
	// The same of the most sectors: a place may be told there that would be none elsewhere.
	image = formatted(t, 1024).d.Image()
	for _, n := range []int{851, 852, 1023} {
		image[19] = seat(1, 10, 1, v(1, n))
		finds(t, "none of 1024 sectors", image, f(6, 173+n), f(10, 1))
	}
	image[19], image[1023] = seat(1, 10, 1, v(1, 850)), root(1, 1, nil)
	finds(t, "the last place of 1024 sectors, not taken", image, f(6, 1023), f(10, 1))
	mark(image, 850, true)
	finds(t, "the last place of 1024 sectors", image)
}

// Where the layout leaves a sector over behind the data, a root or leaf page there is at no place.
func TestA1PagesBehindTheData(t *testing.T) {
	for n := 128; n <= 400; n++ {
		p := plainOf(make([]string, n))
		if p.data+p.count == n {
			continue
		}
		image := formatted(t, n).d.Image()
		image[19] = seat(1, 10, 1, v(1, p.count))
		image[p.data+p.count] = root(1, 1, nil)
		finds(t, "a root behind the data", image, f(6, p.data+p.count), f(10, 1))
		image[19] = seat(1, 10, 3, v(1, 0))
		image[p.data] = root(1, 1, map[int]int{0: p.count})
		image[p.data+p.count] = leaf(1, 1, 0, digestOf(text(1)))
		mark(image, 0, true)
		// The root tells a number that may not be: so it is not right.
		finds(t, "a leaf behind the data", image, f(6, p.data), f(8, p.data), f(10, 1))
		return
	}
	t.Error("no layout leaves one over")
}

func TestA1ARootsPage(t *testing.T) {
	leaves := map[int]int{0: 2, 1: 4}
	body := bodyOf(root(1, 7, leaves))
	for name, s := range map[string]string{
		"noughts": noughts(256), "no page": text(1), "of another volume": root(1, 8, leaves), "of another tenant": root(2, 7, leaves),
		"number 7": page(6, 7, body), "number 708": page(6, 708, body), "a leaf": leaf(1, 7, 0, digestOf(text(10))), "a leaf of that number": page(7, 107, body),
		"of another kind": page(5, 107, body), "39 bytes": page(6, 107, body[:39]), "41 bytes": page(6, 107, body+"\x00"), "38 bytes": page(6, 107, body[:38]), "no bytes": page(6, 107, ""),
		"a leaf 86": page(6, 107, changed(body, 38, number(86, 2))), "a leaf 65535": page(6, 107, changed(body, 4, number(65535, 2))), "a leaf 256": page(6, 107, changed(body, 0, number(256, 2))),
		"a bit is turned": turned(root(1, 7, leaves), 64),
	} {
		image := spoilt(t, func(l []string) { l[at(0)] = s })
		// Its leaves are not looked at: so what they map is not counted, and they are lost.
		finds(t, name, image, noVolume(f(6, at(0)), f(8, at(0)))...)
	}
	// Its place is known as free: the same, but nothing is lost there.
	finds(t, "not taken", spoilt(t, func(l []string) { mark(l, 0, false) }), noVolume(f(6, at(0)))...)
	// Its place is a free one at which nothing stands.
	finds(t, "of another place", spoilt(t, func(l []string) { l[19] = seat(1, 50, 6, v(7, 20)) }), noVolume(f(6, at(20)), f(8, at(0)))...)
}

// A volume of another number at the same root: its page is another volume's.
func TestA1AnotherVolumeOfTheTenant(t *testing.T) {
	for _, n := range []int{0, 6, 8, 99} {
		finds(t, "another number", spoilt(t, func(l []string) { l[19] = seat(1, 50, 6, v(n, 0)) }), noVolume(f(6, at(0)), f(8, at(0)))...)
	}
	// Each volume of each tenant has a number of its own.
	image := formatted(t, 128).d.Image()
	for k := 1; k <= 8; k++ {
		image[18+k] = seat(k, 10, 1, v(100-k, k-1))
		image[at(k-1)] = root(k, 100-k, nil)
		mark(image, k-1, true)
	}
	if x := finds(t, "eight tenants", image); x != (api.Totals{Pages: 8, Charged: 8, Promised: 80, Capacity: 83}) {
		t.Errorf("totals %+v", x)
	}
	image[19], image[20] = seat(1, 10, 1, v(0, 0)), seat(2, 10, 1, v(0, 1))
	image[at(0)], image[at(1)] = root(1, 0, nil), root(2, 0, nil)
	finds(t, "volumes 0", image)
	image[at(0)], image[at(1)] = image[at(1)], image[at(0)]
	finds(t, "swapped", image, f(6, at(0)), f(6, at(1)), f(8, at(0)), f(8, at(1)), f(10, 1), f(10, 2))
}

func TestA1LeavesAsARootTellsThem(t *testing.T) {
	b := digestOf(text(11))
	cases{
		// 0: there is none.
		"no leaf any more": {func(l []string) { l[at(0)] = root(1, 7, map[int]int{0: 2}) }, []api.Finding{f(7, at(3)), f(8, at(4)), f(10, 1)}},
		"one more, free":   {func(l []string) { l[at(0)] = root(1, 7, map[int]int{0: 2, 1: 4, 5: 20}) }, one(6, at(20))},
		"one more, there": {func(l []string) {
			l[at(0)] = root(1, 7, map[int]int{0: 2, 1: 4, 19: 84})
			l[at(84)] = leaf(1, 7, 19, b)
		}, one(6, at(84))},
		"at the last place": {func(l []string) {
			l[at(0)] = root(1, 7, map[int]int{0: 2, 1: 84})
			l[at(84)] = l[at(4)]
			mark(l, 84, true)
			mark(l, 4, false)
		}, nil},
		"at the last place, not taken": {func(l []string) { l[at(0)] = root(1, 7, map[int]int{0: 2, 1: 84}); l[at(84)] = l[at(4)] }, []api.Finding{f(6, at(84)), f(7, at(3)), f(8, at(4)), f(10, 1)}},
		"leaves swapped":               {func(l []string) { l[at(0)] = root(1, 7, map[int]int{0: 4, 1: 2}) }, []api.Finding{f(6, at(2)), f(6, at(4)), f(7, at(1)), f(7, at(3)), f(8, at(2)), f(8, at(4)), f(10, 1)}},
		"moved to another number":      {func(l []string) { l[at(0)] = root(1, 7, map[int]int{0: 2, 2: 4}) }, []api.Finding{f(6, at(4)), f(7, at(3)), f(8, at(4)), f(10, 1)}},
	}.run(t)
}

func TestA1ALeafsPage(t *testing.T) {
	b := digestOf(text(11))
	body := bodyOf(leaf(1, 7, 1, b))
	for name, s := range map[string]string{
		"noughts": noughts(256), "no page": text(1), "of another leaf": leaf(1, 7, 2, b), "of another volume": leaf(1, 8, 1, b), "of another tenant": leaf(2, 7, 1, b),
		"number 1": page(7, 1, body), "the root's number": page(7, 107, body), "of another kind": page(6, 32*107+1, body), "a root": root(1, 7, nil), "240 bytes": page(7, 32*107+1, body[:240]), "242 bytes": page(7, 32*107+1, body+"\x00"), "no bytes": page(7, 32*107+1, ""),
		"no block mapped": leaf(1, 7, 1), "no block mapped, but there": page(7, 32*107+1, "\x00"+body[1:]),
		"marks 8": page(7, 32*107+1, "\x08"+body[1:]), "marks 9": page(7, 32*107+1, "\x09"+body[1:]), "marks 129": page(7, 32*107+1, "\x81"+body[1:]), "marks 255": page(7, 32*107+1, "\xff"+body[1:]),
		"another block's mark": page(7, 32*107+1, "\x02"+body[1:]), "a byte of the second": page(7, 32*107+1, changed(body, 81, "\x01")), "the last byte of the second": page(7, 32*107+1, changed(body, 160, "\x01")),
		"a byte of the third": page(7, 32*107+1, changed(body, 161, "\x01")), "the last byte": page(7, 32*107+1, changed(body, 240, "\x01")), "a bit is turned": turned(leaf(1, 7, 1, b), 2047),
	} {
		image := spoilt(t, func(l []string) { l[at(4)] = s })
		finds(t, name, image, f(6, at(4)), f(7, at(3)), f(8, at(4)), f(10, 1))
	}
	finds(t, "not taken", spoilt(t, func(l []string) { mark(l, 4, false) }), f(6, at(4)), f(7, at(3)), f(10, 1))
	// Wrapped keys are nobody's business, and a block may be mapped wherever it likes in its leaf.
	finds(t, "another key", spoilt(t, func(l []string) { set(l, at(4), 33, text(1)[:48]) }))
	finds(t, "the second block", spoilt(t, func(l []string) { l[at(4)] = leaf(1, 7, 1, "", b) }))
	finds(t, "the third block", spoilt(t, func(l []string) { l[at(4)] = leaf(1, 7, 1, "", "", b) }))
	finds(t, "a key of noughts", spoilt(t, func(l []string) { set(l, at(4), 33, noughts(48)) }))
}

// A digest of noughts and a key of noughts are an entry, if the block is mapped.
func TestA1AnEntryOfNoughts(t *testing.T) {
	image := spoilt(t, func(l []string) { set(l, at(4), 1, noughts(80)) })
	finds(t, "it stands nowhere", image, f(7, at(3)), f(7, at(4)))
	put(image, indexAt, 3, slot(noughts(32), 1))
	finds(t, "it stands", image, f(9, at(3)))
}

// Of two owners the one ahead has the place: what stands in the index, then the volumes by tenants and numbers, of each the root, then the leaves.
func TestA1PlacesThatTwoOwn(t *testing.T) {
	cases{
		"a chunk and a root": {func(l []string) { put(l, indexAt, 0, slot(digestOf(l[at(0)]), 1)) },
			append([]api.Finding{f(6, at(0)), f(7, at(0))}, noVolume()...)},
		"a chunk and a leaf":                  {func(l []string) { put(l, indexAt, 4, slot(digestOf(l[at(4)]), 1)) }, []api.Finding{f(6, at(4)), f(7, at(3)), f(7, at(4)), f(10, 1)}},
		"a chunk that is told by a root":      {func(l []string) { l[19] = seat(1, 50, 6, v(7, 1)) }, noVolume(f(6, at(1)), f(8, at(0)))},
		"a chunk that is told by a leaf":      {func(l []string) { l[at(0)] = root(1, 7, map[int]int{0: 2, 1: 3}) }, []api.Finding{f(6, at(3)), f(7, at(3)), f(8, at(4)), f(10, 1)}},
		"two roots, the page is the first's":  {func(l []string) { l[20] = seat(2, 33, 6, v(7, 5), v(9, 6), v(10, 0)) }, one(6, at(0))},
		"two roots of one tenant":             {func(l []string) { l[19] = seat(1, 50, 6, v(3, 0), v(7, 0)) }, one(6, at(0))},
		"two roots, the page is the second's": {func(l []string) { l[19] = seat(1, 50, 6, v(7, 5)) }, noVolume(f(6, at(5)), f(8, at(0)))},
		"a root and its own leaf":             {func(l []string) { l[at(0)] = root(1, 7, map[int]int{0: 2, 1: 4, 2: 0}) }, one(6, at(0))},
		"a root and its own leaf, which is":   {func(l []string) { l[19] = seat(1, 50, 6, v(7, 2)) }, noVolume(f(6, at(2)), f(8, at(0)))},
		"two leaves of one root":              {func(l []string) { l[at(0)] = root(1, 7, map[int]int{0: 2, 1: 4, 2: 4}) }, one(6, at(4))},
		"two leaves of one root, the first":   {func(l []string) { l[at(0)] = root(1, 7, map[int]int{0: 4, 1: 4}) }, []api.Finding{f(6, at(4)), f(7, at(1)), f(8, at(2)), f(10, 1)}},
		"two leaves of two roots":             {func(l []string) { l[at(6)] = root(2, 9, map[int]int{0: 9, 5: 4, 19: 7}) }, one(6, at(4))},
		"a leaf and another volume's root":    {func(l []string) { l[at(0)] = root(1, 7, map[int]int{0: 2, 1: 4, 2: 6}) }, one(6, at(6))},
		"all leaves are one":                  {func(l []string) { set(l, at(5), 0, "\x00\x03\x00\x03\x00\x03\x00\x03") }, one(6, at(2))},
	}.run(t)
}

// Where it is not known whether a place is taken, the order is the same.
func TestA1PlacesThatTwoOwnAndNobodyKnows(t *testing.T) {
	image := spoilt(t, func(l []string) {
		l[27] = noughts(256)
		put(l, indexAt, 0, slot(digestOf(l[at(0)]), 1))
	})
	// As above, but nothing is lost.
	finds(t, "a chunk and a root", image, f(3, 27), f(6, at(0)), f(7, at(0)), f(7, at(1)), f(7, at(3)), f(10, 1))
}

// A root that is none owns nothing: so another one may have its place, and its leaves' places.
func TestA1WhatIsNotOwnedRightlyIsNoOwner(t *testing.T) {
	// Volume 3 tells the place of a page that is volume 7's: it is none, and volume 7 has it.
	finds(t, "a root", spoilt(t, func(l []string) { l[19] = seat(1, 50, 6, v(3, 0), v(7, 0)) }), f(6, at(0)))
	// The first leaf tells the place of the second.
	finds(t, "a leaf", spoilt(t, func(l []string) { l[at(0)] = root(1, 7, map[int]int{0: 4, 1: 4}) }), f(6, at(4)), f(7, at(1)), f(8, at(2)), f(10, 1))
	// A root whose place is not taken has leaves that are right: they are not looked at, and owned by nobody.
	finds(t, "the leaves of a root that is none", spoilt(t, func(l []string) { mark(l, 6, false) }),
		f(6, at(6)), f(7, at(1)), f(7, at(8)), f(8, at(7)), f(8, at(9)), f(10, 2))
	// The leaves of a root that is none may be wrong as they like.
	finds(t, "wrong leaves of a root that is none", spoilt(t, func(l []string) {
		mark(l, 6, false)
		mark(l, 7, false)
		l[at(9)] = noughts(256)
		mark(l, 9, false)
	}), f(6, at(6)), f(7, at(1)), f(7, at(8)), f(10, 2))
}

// All twenty leaves and all sixty blocks of a volume, eight volumes of a tenant.
func TestA1WholeVolumes(t *testing.T) {
	image := formatted(t, 1024).d.Image()
	const data = 173
	var volumes []api.Volume
	place := 0
	took := func(s string) int {
		image[data+place] = s
		mark(image, place, true)
		place++
		return place - 1
	}
	chunk := took(text(1))
	put(image, 31, chunk, slot(digestOf(text(1)), 8*60))
	for n := range 8 {
		leaves := map[int]int{}
		for l := range 20 {
			leaves[l] = took(leaf(8, 12*n, l, digestOf(text(1)), digestOf(text(1)), digestOf(text(1))))
		}
		volumes = append(volumes, v(12*n, took(root(8, 12*n, leaves))))
	}
	image[26] = seat(8, 849, 8*81, volumes...)
	if x := finds(t, "eight whole volumes", image); x != (api.Totals{Chunks: 1, Pages: 8 * 21, Mapped: 8 * 60, Charged: 8 * 81, Promised: 849, Capacity: 849}) {
		t.Errorf("totals %+v", x)
	}
	// Each leaf, one by one, of which the page is not right.
	for p := 1; p < place; p++ {
		was := image[data+p]
		image[data+p] = turned(was, 8*p)
		got, _, _ := agrees(t, "a page that is not right", image)
		if got[0] != f(6, data+p) {
			t.Errorf("place %d: %v", p, got)
		}
		image[data+p] = was
	}
}
