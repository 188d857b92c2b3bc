package audit_test

import (
	"testing"

	"strongbox/api"
)

func TestA1Counts(t *testing.T) {
	a, b, c := digestOf(text(10)), digestOf(text(11)), digestOf(text(12))
	cases{
		"one above":         {func(l []string) { put(l, indexAt, 1, slot(a, 4)) }, one(7, at(1))},
		"one below":         {func(l []string) { put(l, indexAt, 1, slot(a, 2)) }, one(7, at(1))},
		"far above":         {func(l []string) { put(l, indexAt, 1, slot(a, 65535)) }, one(7, at(1))},
		"one above, of one": {func(l []string) { put(l, indexAt, 8, slot(c, 2)) }, one(7, at(8))},
		"two of them":       {func(l []string) { put(l, indexAt, 3, slot(b, 2)); put(l, indexAt, 1, slot(a, 2)) }, []api.Finding{f(7, at(1)), f(7, at(3))}},
		"two, and together": {func(l []string) { put(l, indexAt, 3, slot(b, 3)); put(l, indexAt, 1, slot(a, 1)) }, []api.Finding{f(7, at(1)), f(7, at(3))}},
		"mapped to another": {func(l []string) { set(l, at(9), 1, b) }, []api.Finding{f(7, at(3)), f(7, at(8))}},
		"mapped once more":  {func(l []string) { l[at(9)] = leaf(2, 9, 0, c, c) }, []api.Finding{f(7, at(8)), f(10, 2)}},
		"mapped once less":  {func(l []string) { l[at(2)] = leaf(1, 7, 0, a) }, []api.Finding{f(7, at(1)), f(10, 1)}},
		"mapped by nobody": {func(l []string) {
			l[at(20)] = text(5)
			put(l, indexAt, 20, slot(digestOf(text(5)), 1))
			mark(l, 20, true)
		}, one(7, at(20))},
		"digests swapped":    {func(l []string) { put(l, indexAt, 1, slot(b, 1)); put(l, indexAt, 3, slot(a, 3)) }, []api.Finding{f(9, at(1)), f(9, at(3))}},
		"digests and counts": {func(l []string) { put(l, indexAt, 1, slot(b, 3)); put(l, indexAt, 3, slot(a, 1)) }, []api.Finding{f(7, at(1)), f(7, at(3)), f(9, at(1)), f(9, at(3))}},
	}.run(t)
}

// A leaf maps a block to a digest that stands nowhere: it is told by the leaf's sector, once, however many blocks it are.
func TestA1DigestsThatStandNowhere(t *testing.T) {
	a, x, y := digestOf(text(10)), digestOf("x"), digestOf("y")
	cases{
		"the only one":   {func(l []string) { set(l, at(4), 1, x) }, []api.Finding{f(7, at(3)), f(7, at(4))}},
		"one of two":     {func(l []string) { set(l, at(2), 81, x) }, []api.Finding{f(7, at(1)), f(7, at(2))}},
		"both of two":    {func(l []string) { set(l, at(2), 1, x); set(l, at(2), 81, y) }, []api.Finding{f(7, at(1)), f(7, at(2))}},
		"both the same":  {func(l []string) { set(l, at(2), 1, x); set(l, at(2), 81, x) }, []api.Finding{f(7, at(1)), f(7, at(2))}},
		"one bit of it":  {func(l []string) { set(l, at(4), 1, turned(digestOf(text(11)), 255)) }, []api.Finding{f(7, at(3)), f(7, at(4))}},
		"in two leaves":  {func(l []string) { set(l, at(4), 1, x); set(l, at(9), 1, x) }, []api.Finding{f(7, at(3)), f(7, at(4)), f(7, at(8)), f(7, at(9))}},
		"of no slot now": {func(l []string) { put(l, indexAt, 3, noughts(37)) }, []api.Finding{f(7, at(4)), f(8, at(3))}},
		"one more block": {func(l []string) { l[at(2)] = leaf(1, 7, 0, a, a, x); set(l, 19, 5, number(7, 4)) }, one(7, at(2))},
	}.run(t)
	// The block is mapped all the same.
	if x := finds(t, "totals", spoilt(t, func(l []string) { set(l, at(4), 1, x) }), f(7, at(3)), f(7, at(4))); x != furniture() {
		t.Errorf("totals %+v", x)
	}
}

// Blocks are counted that are mapped in leaves that are owned rightly, and no others.
func TestA1BlocksOfLeavesThatAreNotOwned(t *testing.T) {
	finds(t, "a leaf that is none", spoilt(t, func(l []string) { mark(l, 7, false); put(l, indexAt, 1, slot(digestOf(text(10)), 2)) }), f(6, at(7)), f(10, 2))
	finds(t, "a digest in a leaf that is none", spoilt(t, func(l []string) { set(l, at(7), 161, digestOf("x")); mark(l, 7, false) }), f(6, at(7)), f(7, at(1)), f(10, 2))
}

func TestA1LostPlaces(t *testing.T) {
	cases{
		"a free one":     {func(l []string) { mark(l, 10, true) }, one(8, at(10))},
		"the last one":   {func(l []string) { mark(l, 84, true) }, one(8, at(84))},
		"some":           {func(l []string) { mark(l, 50, true); mark(l, 20, true); mark(l, 31, true) }, []api.Finding{f(8, at(20)), f(8, at(31)), f(8, at(50))}},
		"a right root":   {func(l []string) { mark(l, 20, true); l[at(20)] = root(3, 1, nil) }, one(8, at(20))},
		"a right leaf":   {func(l []string) { mark(l, 20, true); l[at(20)] = leaf(1, 7, 2, digestOf(text(10))) }, one(8, at(20))},
		"a chunk":        {func(l []string) { mark(l, 20, true); l[at(20)] = text(10) }, one(8, at(20))},
		"an empty root":  {func(l []string) { l[20] = seat(2, 33, 5, v(9, 6)) }, one(8, at(5))},
		"a chunk's slot": {func(l []string) { put(l, indexAt, 8, noughts(37)) }, []api.Finding{f(7, at(9)), f(8, at(8))}},
	}.run(t)
	// All places of a store of nobody.
	image := formatted(t, 128).d.Image()
	var want []api.Finding
	for place := range 85 {
		mark(image, place, true)
		want = append(want, f(8, at(place)))
	}
	finds(t, "all", image, want...)
	image[27] = turned(image[27], 100)
	finds(t, "all, and nobody knows", image, f(3, 27))
}

func TestA1Chunks(t *testing.T) {
	a := digestOf(text(10))
	cases{
		"its place is not taken":  {func(l []string) { mark(l, 1, false) }, one(9, at(1))},
		"the first bit is turned": {func(l []string) { l[at(1)] = turned(l[at(1)], 0) }, one(9, at(1))},
		"a bit is turned":         {func(l []string) { l[at(1)] = turned(l[at(1)], 1000) }, one(9, at(1))},
		"the last bit is turned":  {func(l []string) { l[at(1)] = turned(l[at(1)], 2047) }, one(9, at(1))},
		"both":                    {func(l []string) { mark(l, 1, false); l[at(1)] = turned(l[at(1)], 1000) }, one(9, at(1))},
		"another chunk":           {func(l []string) { l[at(1)] = text(11) }, one(9, at(1))},
		"two of them":             {func(l []string) { l[at(1)], l[at(3)] = l[at(3)], l[at(1)] }, []api.Finding{f(9, at(1)), f(9, at(3))}},
		"noughts":                 {func(l []string) { l[at(8)] = noughts(256) }, one(9, at(8))},
		"at a free place": {func(l []string) {
			put(l, indexAt, 8, noughts(37))
			put(l, indexAt, 40, slot(digestOf(text(12)), 1))
			l[at(40)] = text(12)
			mark(l, 8, false)
		}, one(9, at(40))},
		"at another place": {func(l []string) {
			put(l, indexAt, 8, noughts(37))
			put(l, indexAt, 40, slot(digestOf(text(12)), 1))
			l[at(40)] = text(12)
			mark(l, 8, false)
			mark(l, 40, true)
		}, nil},
		"one bit of the digest":      {func(l []string) { put(l, indexAt, 1, slot(turned(a, 0), 3)) }, []api.Finding{f(7, at(1)), f(7, at(2)), f(7, at(7)), f(9, at(1))}},
		"nobody knows of its place":  {func(l []string) { l[27] = noughts(256) }, one(3, 27)},
		"and its bytes are not that": {func(l []string) { l[27] = noughts(256); l[at(3)] = text(1) }, []api.Finding{f(3, 27), f(9, at(3))}},
	}.run(t)
	// A chunk may be any bytes, also those of a page.
	for _, s := range []string{noughts(256), page(6, 107, noughts(40)), page(1, 0, "")} {
		image := spoilt(t, func(l []string) {
			l[at(8)] = s
			put(l, indexAt, 8, slot(digestOf(s), 1))
			l[at(9)] = leaf(2, 9, 0, digestOf(s))
		})
		finds(t, "any bytes", image)
	}
}

func TestA1Charges(t *testing.T) {
	cases{
		"one above":        {func(l []string) { set(l, 19, 5, number(7, 4)) }, one(10, 1)},
		"one below":        {func(l []string) { set(l, 19, 5, number(5, 4)) }, one(10, 1)},
		"nothing":          {func(l []string) { set(l, 19, 5, number(0, 4)) }, one(10, 1)},
		"all of the quota": {func(l []string) { set(l, 19, 5, number(50, 4)) }, one(10, 1)},
		"both":             {func(l []string) { set(l, 19, 5, number(5, 4)); set(l, 20, 5, number(7, 4)) }, []api.Finding{f(10, 1), f(10, 2)}},
		"of no volume":     {func(l []string) { l[19] = seat(1, 50, 1); l[22] = seat(4, 0, 0) }, append([]api.Finding{f(7, at(1)), f(7, at(3)), f(8, at(0)), f(8, at(2)), f(8, at(4))}, f(10, 1))},
		"of another one":   {func(l []string) { set(l, 20, 1, number(28, 4)); l[26] = seat(8, 5, 1) }, one(10, 8)},
		"of all of them":   {func(l []string) { set(l, 20, 1, number(28, 4)); l[26] = seat(8, 5, 5) }, one(10, 8)},
		"of nobody":        {func(l []string) { l[26] = seat(8, 0, 0) }, nil},
	}.run(t)
	// What is charged is what is owned rightly: so a charge that leaves out what is not is right.
	finds(t, "without a leaf that is none", spoilt(t, func(l []string) { mark(l, 4, false); set(l, 19, 5, number(4, 4)) }), f(6, at(4)), f(7, at(3)))
	finds(t, "without a root that is none", spoilt(t, func(l []string) { mark(l, 5, false); set(l, 20, 5, number(5, 4)) }), f(6, at(5)))
}

// Of the example in the chapter: tenant 1 is charged where nothing is mapped.
func TestA1Examples(t *testing.T) {
	if x := finds(t, "128 sectors of noughts", blank(128), f(1, 0)); x != (api.Totals{}) {
		t.Errorf("totals %+v", x)
	}
	image := formatted(t, 128).d.Image()
	if x := finds(t, "behind Format", image); x != (api.Totals{Capacity: 83}) {
		t.Errorf("totals %+v", x)
	}
	was := image[28]
	for bit := 0; bit < 2048; bit += 37 {
		image[28] = turned(was, bit)
		finds(t, "a bit in sector 28", image, f(4, 28))
	}
	image[28] = was
	image[19] = seat(1, 10, 5)
	finds(t, "a charge of 5", image, f(10, 1))
}

// By rising kinds, then rising numbers, each once; those of tenants are not held against sectors.
func TestA1AllKindsAtOnce(t *testing.T) {
	image := spoilt(t, func(l []string) {
		l[1] = noughts(256)                                   // 2
		put(l, indexAt, 84+1, slot(digestOf("x"), 1))         // 4: the last page
		put(l, indexAt, 70, slot(digestOf(text(10)), 3))      // 4: as at place 1
		l[24], l[21] = noughts(256), noughts(256)             // 5
		l[22] = seat(4, 65535, 9, v(1, 500), v(2, 0))         // 5 and 10; 6, at no place and at one that is another's
		l[at(6)] = root(2, 9, map[int]int{0: 9, 3: 4, 19: 7}) // 6: a leaf that is another's
		put(l, indexAt, 8, slot(digestOf(text(12)), 2))       // 7
		set(l, at(4), 1, digestOf("y"))                       // 7, of a leaf and of a chunk
		mark(l, 84, true)                                     // 8
		mark(l, 30, true)                                     // 8
		mark(l, 3, false)                                     // 9
		l[at(1)] = noughts(256)                               // 9
		set(l, 19, 5, number(9, 4))                           // 10
	})
	finds(t, "all but two", image, f(2, 1), f(4, 28+11), f(4, 42), f(5, 0), f(5, 21), f(5, 24), f(6, at(0)), f(6, at(4)), f(6, at(500)),
		f(7, at(3)), f(7, at(4)), f(7, at(8)), f(8, at(30)), f(8, at(84)), f(9, at(1)), f(9, at(3)), f(10, 1), f(10, 4))
	image[27] = noughts(256)
	finds(t, "all but one", image, f(2, 1), f(3, 27), f(4, 28+11), f(4, 42), f(5, 0), f(5, 21), f(5, 24), f(6, at(0)), f(6, at(4)), f(6, at(500)),
		f(7, at(3)), f(7, at(4)), f(7, at(8)), f(9, at(1)), f(10, 1), f(10, 4))
	image[0] = noughts(256)
	finds(t, "the first alone", image, f(1, 0))
}

// A disk of 1024 sectors has four pages of the bitmap: of each by itself it is known what is taken.
func TestA1PlacesOfSeveralPagesOfTheBitmap(t *testing.T) {
	base := formatted(t, 1024).d.Image()
	for k := range 4 {
		image := append([]string{}, base...)
		var want []api.Finding
		for page := range 4 {
			place := 256*page + 17*page
			mark(image, place, true)
			if page != k {
				want = append(want, f(8, 173+place))
			}
		}
		image[27+k] = turned(image[27+k], 64+k)
		finds(t, "one page is not right", image, append([]api.Finding{f(3, 27+k)}, want...)...)
	}
	image := append([]string{}, base...)
	for _, place := range []int{0, 255, 256, 511, 512, 767, 768, 850} {
		image[173+place] = root(1, place%100, nil)
		mark(image, place, true)
	}
	image[19] = seat(1, 849, 8, v(0, 0), v(11, 511), v(12, 512), v(50, 850), v(55, 255), v(56, 256), v(67, 767), v(68, 768))
	if x := finds(t, "the edges of the pages", image); x != (api.Totals{Pages: 8, Charged: 8, Promised: 849, Capacity: 849}) {
		t.Errorf("totals %+v", x)
	}
	renumber(image, 28, 3, 2)
	renumber(image, 29, 3, 1)
	finds(t, "two pages by their numbers", image, f(3, 28), f(3, 29))
	// Both know the same of their places: so each may stand for the other one.
	image[28], image[29] = image[29], image[28]
	finds(t, "swapped", image)
}
