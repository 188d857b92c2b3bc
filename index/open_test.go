package index_test

import (
	"math"
	"math/rand"
	"slices"
	"strings"
	"testing"

	"strongbox/api"
	"strongbox/index"
	"strongbox/pool"
)

func TestI2TheExamples(t *testing.T) {
	l, e := index.Initial(7)
	if e != api.OK || len(l) != 2 {
		t.Fatalf("Initial(7) = %q, %d", l, e)
	}
	x := opened(t, pooled(t, loaded(t, image(t, 128, 19, l...)), 4), 19, 7)
	lists(t, x)
	findsNot(t, x, strings.Repeat("a", 32))
}

func TestI2OpenFindsWhatInitialGave(t *testing.T) {
	for _, count := range counts() {
		l, e := index.Initial(count)
		answers(t, "Initial", e, api.OK)
		for _, size := range []int{size, 201, 1024} {
			for _, first := range []int{18, 19, 20, size - len(l) - 1, size - len(l)} {
				d := loaded(t, image(t, size, first, l...))
				tells(t, opened(t, pooled(t, d, 4), first, count), count)
				if len(d.Trace()) != 0 {
					t.Fatalf("acts %v", d.Trace())
				}
			}
		}
	}
}

func TestI2OpenFindsWhateverStands(t *testing.T) {
	r := rand.New(rand.NewSource(1))
	for _, count := range counts() {
		for _, places := range [][]int{upTo(count), {0}, {count - 1}, some(r, count, 1), some(r, count, 2), some(r, count, 3)} {
			_, _, x := made(t, r.Intn(5), count, at(places...)...)
			tells(t, x, count, at(places...)...)
		}
	}
}

func TestI2ThePlaceOfAnEntryIsToldByItsSlotAlone(t *testing.T) {
	r := rand.New(rand.NewSource(2))
	for _, count := range counts() {
		var l []api.Slot
		for i, n := range r.Perm(count) {
			l = append(l, slot(i, digest(n), 1+r.Intn(65535)))
		}
		_, _, x := made(t, 2, count, l...)
		tells(t, x, count, l...)
	}
}

func TestI2WhichBytesAreWhose(t *testing.T) {
	// A page that is written out here by hand.
	a, z := strings.Repeat("a", 32), strings.Repeat("z", 31)+"\x00"
	b := none() + "\x01" + a + "\x00\x00\x01\x02" + none() + none() + none() + "\x01" + z + "\x00\x00\xff\xff"
	p := pooled(t, loaded(t, image(t, 128, 19, page(t, 4, 0, b), page(t, 4, 1, "\x01"+none()[:32]+"\x00\x00\x00\x01"+strings.Repeat("\x00", 185)))), 2)
	x := opened(t, p, 19, 7)
	lists(t, x, slot(1, a, 258), slot(5, z, 65535), slot(6, none()[:32], 1))
	finds(t, x, none()[:32], 6)
}

func TestI2APageMayBeTheFirstSector(t *testing.T) {
	for _, count := range []int{1, 5, 6} {
		p := pooled(t, loaded(t, image(t, 128, 0, pages(t, count, at(count-1)...)...)), 4)
		tells(t, opened(t, p, 0, count), count, at(count-1)...)
	}
	// The second page of this one would be the journal's head.
	p := pooled(t, loaded(t, image(t, 128, 0, pages(t, 7)...)), 4)
	refused(t, p, 0, 7, api.ErrIndexForm)
}

func TestI2OpenRefusesOtherCounts(t *testing.T) {
	p := pooled(t, loaded(t, image(t, 1024, 19, pages(t, 1024)...)), 4)
	for _, count := range noCounts() {
		for _, first := range []int{-1, 0, 18, 19, 20, 853, 1023, 1024, math.MaxInt, math.MinInt} {
			refused(t, p, first, count, api.ErrArg)
		}
	}
}

func TestI2OpenRefusesPagesThatAreNoSectors(t *testing.T) {
	for _, size := range []int{size, 201, 1024} {
		for _, count := range counts() {
			l := pages(t, count)
			last := size - len(l)
			p := pooled(t, loaded(t, image(t, size, last, l...)), 4)
			opened(t, p, last, count)
			for _, first := range []int{-1, last + 1, -2, -last, -size, last + 2, size - 1 + len(l)/2, size, size + 1, 1 << 32, math.MaxInt, math.MaxInt - 1, math.MaxInt - 170, math.MaxInt - 171, math.MinInt, math.MinInt + 3} {
				if first <= last && first >= 0 {
					continue
				}
				refused(t, p, first, count, api.ErrArg)
			}
		}
	}
}

func TestI2MorePagesThanTheDiskHasSectors(t *testing.T) {
	p := pooled(t, loaded(t, image(t, 128, 19)), 4)
	for _, first := range []int{-44, -43, -42, -1, 0, 1, 19} {
		refused(t, p, first, 1024, api.ErrArg)
	}
	refused(t, p, 0, 768, api.ErrIndexForm)
	refused(t, p, 0, 769, api.ErrArg)
}

func TestI2OpenOfNoPool(t *testing.T) {
	for _, count := range []int{-1, 0, 1, 1024, 1025} {
		for _, first := range []int{-1, 0, 19} {
			refused(t, nil, first, count, api.ErrArg)
		}
	}
}

// noPages are sectors that are not the page of that number of an index, whichever places it has.
func noPages(t *testing.T, number int) []string {
	t.Helper()
	right := page(t, 4, number, body(number))
	l := []string{strings.Repeat("\x00", 256), strings.Repeat("\xff", 256), text(1)}
	for kind := range 256 {
		if kind != 4 {
			l = append(l, page(t, kind, number, body(number)))
		}
	}
	for _, other := range []int{0, 1, 2, 3, 4, number + 1, number + 256, number + 1<<16, number + 1<<24, number + 1<<31, math.MaxUint32} {
		if other != number {
			l = append(l, page(t, 4, other, body(0)))
		}
	}
	for n := range 245 {
		if n != 222 {
			l = append(l, page(t, 4, number, strings.Repeat("\x00", n)))
		}
	}
	// Each of these has one bit of a right page turned.
	for i := range 256 {
		b := []byte(right)
		b[i] ^= 1 << (i % 8)
		l = append(l, string(b))
	}
	return l
}

func TestI2OpenRefusesSectorsThatAreNoSuchPage(t *testing.T) {
	for _, count := range []int{1, 6, 7, 13} {
		for k := range pagesOf(count) {
			p := pooled(t, loaded(t, image(t, 128, 19, pages(t, count, at(0)...)...)), 4)
			begin(t, p)
			for _, s := range noPages(t, k) {
				write(t, p, 19+k, s)
				refused(t, p, 19, count, api.ErrIndexForm)
			}
			abort(t, p)
			tells(t, opened(t, p, 19, count), count, at(0)...)
		}
	}
}

func TestI2OpenRefusesWrongPagesOfADisk(t *testing.T) {
	for _, k := range []int{0, 1, 2, 169, 170} {
		for _, s := range []string{text(1), page(t, 3, k, body(k)), page(t, 5, k, body(k)), page(t, 4, k+1, body(k)), page(t, 4, k, body(k)[:221]), page(t, 4, k, body(k)+"\x00"), page(t, 4, k, body(k)[:185])} {
			l := pages(t, 1024)
			l[k] = s
			d := loaded(t, image(t, size, 19, l...))
			p := pooled(t, d, 0)
			refused(t, p, 19, 1024, api.ErrIndexForm)
			if k > 0 {
				tells(t, opened(t, p, 19, 6*k), 6*k)
			}
			if len(d.Trace()) != 0 {
				t.Fatalf("acts %v", d.Trace())
			}
		}
	}
}

// noSlots are 37 bytes each that are no slot.
func noSlots() []string {
	right := bytesOf(slot(0, digest(5000), 7))
	var l []string
	for first := range 256 {
		if first != 1 {
			l = append(l, string([]byte{byte(first)})+right[1:])
		}
		if first != 0 {
			l = append(l, string([]byte{byte(first)})+none()[1:])
		}
	}
	for _, count := range []string{"\x00\x00\x00\x00", "\x00\x01\x00\x00", "\x00\x01\x00\x01", "\x01\x00\x00\x00", "\x01\x00\x00\x07", "\x80\x00\x00\x01", "\xff\xff\xff\xff"} {
		l = append(l, right[:33]+count)
	}
	for i := range 37 {
		for _, c := range []byte{1, 2, 128, 255} {
			b := []byte(none())
			b[i] = c
			l = append(l, string(b))
		}
	}
	return l
}

// putIn is a body with these bytes as its slot i.
func putIn(body string, i int, s string) string { return body[:37*i] + s + body[37*i+37:] }

func TestI2OpenRefusesSlotsThatAreNone(t *testing.T) {
	for _, count := range []int{6, 12, 13} {
		p := pooled(t, loaded(t, image(t, 128, 19, pages(t, count, at(upTo(count)...)...)...)), 4)
		for i := range count {
			k := i / 6
			for _, l := range [][]api.Slot{nil, at(upTo(count)...)} {
				begin(t, p)
				for _, s := range noSlots() {
					write(t, p, 19+k, page(t, 4, k, putIn(body(k, l...), i%6, s)))
					refused(t, p, 19, count, api.ErrIndexForm)
				}
				abort(t, p)
			}
		}
		opened(t, p, 19, count)
	}
}

func TestI2EdgesOfCountsThatMayStand(t *testing.T) {
	for _, n := range []int{1, 2, 255, 256, 257, 32768, 65534, 65535} {
		_, _, x := made(t, 2, 7, slot(0, digest(0), n), slot(6, digest(1), n))
		tells(t, x, 7, slot(0, digest(0), n), slot(6, digest(1), n))
	}
}

func TestI2OpenRefusesADigestThatStandsTwice(t *testing.T) {
	places := []int{0, 1, 4, 5, 6, 7, 11, 12, 17, 18}
	p := pooled(t, loaded(t, image(t, 128, 19)), 4)
	begin(t, p)
	for _, i := range places {
		for _, j := range places {
			if i >= j {
				continue
			}
			for _, count := range []int{7, 8} {
				l := with(at(upTo(19)...), slot(i, digest(5000), 7), slot(j, digest(5000), count))
				for k, s := range pages(t, 19, l...) {
					write(t, p, 19+k, s)
				}
				refused(t, p, 19, 19, api.ErrIndexForm)
				// Without the second one it is right; so it is without its page.
				write(t, p, 19+j/6, page(t, 4, j/6, body(j/6, without(l, j)...)))
				tells(t, opened(t, p, 19, 19), 19, without(l, j)...)
			}
		}
	}
}

func TestI2ADigestOfNoughtsMayStandAndNotTwice(t *testing.T) {
	nought := none()[:32]
	_, _, x := made(t, 2, 13, slot(3, nought, 5))
	finds(t, x, nought, 3)
	lists(t, x, slot(3, nought, 5))
	for _, j := range []int{2, 4, 6, 12} {
		p := pooled(t, loaded(t, image(t, 128, 19, pages(t, 13, slot(3, nought, 5), slot(j, nought, 1))...)), 2)
		refused(t, p, 19, 13, api.ErrIndexForm)
	}
}

func TestI2OpenRefusesSlotsOfNoPlace(t *testing.T) {
	p := pooled(t, loaded(t, image(t, size, 19)), 4)
	begin(t, p)
	for _, count := range []int{1, 2, 5, 7, 8, 11, 13} {
		l := at(upTo(count)...)
		last := pagesOf(count) - 1
		for k, s := range pages(t, count, l...) {
			write(t, p, 19+k, s)
		}
		tells(t, opened(t, p, 19, count), count, l...)
		for stray := count; stray < 6*last+6; stray++ {
			write(t, p, 19+last, page(t, 4, last, body(last, with(l, at(stray)...)...)))
			refused(t, p, 19, count, api.ErrIndexForm)
			// What stands there is a place's of an index that has more of them.
			tells(t, opened(t, p, 19, stray+1), stray+1, with(l, at(stray)...)...)
			for _, s := range noSlots() {
				write(t, p, 19+last, page(t, 4, last, putIn(body(last, l...), stray%6, s)))
				refused(t, p, 19, count, api.ErrIndexForm)
			}
		}
	}
}

func TestI2SlotsOfNoPlaceOfTheGreatestOnes(t *testing.T) {
	for _, c := range []struct{ count, stray int }{{1023, 1023}, {1023, 1025}, {1024, 1024}, {1024, 1025}} {
		for _, l := range [][]api.Slot{at(c.stray), at(append(upTo(c.count), c.stray)...)} {
			p := pooled(t, loaded(t, image(t, size, 19, pages(t, c.count, l...)...)), 4)
			refused(t, p, 19, c.count, api.ErrIndexForm)
		}
	}
}

func TestI2OfAnIndexOfWholePagesEachSlotIsAPlaces(t *testing.T) {
	for _, count := range []int{6, 12, 18, 1020} {
		_, _, x := made(t, 2, count, at(upTo(count)...)...)
		tells(t, x, count, at(upTo(count)...)...)
	}
}

func TestI2OpenOfADeadDisk(t *testing.T) {
	for _, count := range []int{1, 7, 1024} {
		d := loaded(t, image(t, size, 19, pages(t, count)...))
		p := pooled(t, d, 4)
		kill(t, d)
		for range 2 {
			refused(t, p, 19, count, api.ErrDead)
			// What is there does not matter, if it cannot be read.
			refused(t, p, 18, count, api.ErrDead)
			refused(t, p, 19, 0, api.ErrArg)
			refused(t, p, 19, 1025, api.ErrArg)
			refused(t, p, -1, count, api.ErrArg)
			refused(t, p, size, count, api.ErrArg)
			refused(t, p, size+1-pagesOf(count), count, api.ErrArg)
		}
		// A pool that was lost stays it.
		answers(t, "Crash", d.Crash(nil), api.OK)
		refused(t, p, 19, count, api.ErrDead)
		tells(t, opened(t, pooled(t, d, 4), 19, count), count)
	}
}

func TestI2OpenOfALostPoolWhoseTransactionHasWrittenIt(t *testing.T) {
	d := loaded(t, image(t, 128, 19))
	p := pooled(t, d, 4)
	begin(t, p)
	write(t, p, 19, page(t, 4, 0, body(0)))
	opened(t, p, 19, 6)
	lose(t, d, p)
	refused(t, p, 19, 6, api.ErrDead)
	refused(t, p, 19, 1025, api.ErrArg)
}

// wrongs are bodies of the page 1 that may not be, of an index of 18 places, at the first of which digest(0) stands.
func wrongs() []string {
	return []string{
		body(1)[:221],
		body(1) + "\x00",
		putIn(body(1), 0, noSlots()[0]),
		putIn(body(1), 5, noSlots()[300]),
		body(1, slot(6, digest(0), 1)),
		body(1, slot(11, digest(0), 1)),
		body(1, slot(6, digest(7), 1), slot(7, digest(7), 1)),
	}
}

func TestI2OfTwoWrongPagesTheFirstOneIsTold(t *testing.T) {
	for _, bad := range wrongs() {
		for _, c := range []struct {
			first, second, third string
			want                 api.Errno
		}{
			// What the transaction has written is told by a dead disk's pool too; what stands on the disk alone (-) is not.
			{"right", "right", "right", api.OK},
			{"right", "wrong", "right", api.ErrIndexForm},
			{"right", "wrong", "-", api.ErrIndexForm},
			{"wrong", "-", "-", api.ErrIndexForm},
			{"wrong", "wrong", "-", api.ErrIndexForm},
			{"wrong", "right", "-", api.ErrIndexForm},
			{"-", "wrong", "wrong", api.ErrDead},
			{"-", "right", "wrong", api.ErrDead},
			{"right", "-", "wrong", api.ErrDead},
			{"-", "-", "wrong", api.ErrDead},
			{"right", "right", "-", api.ErrDead},
			{"right", "right", "wrong", api.ErrIndexForm},
		} {
			d := loaded(t, image(t, 128, 19, pages(t, 18, at(0)...)...))
			p := pooled(t, d, 0)
			begin(t, p)
			for k, kind := range []string{c.first, c.second, c.third} {
				switch {
				case kind == "right":
					write(t, p, 19+k, page(t, 4, k, body(k, at(0)...)))
				case kind == "wrong" && k == 1:
					write(t, p, 20, page(t, 4, 1, bad))
				case kind == "wrong":
					write(t, p, 19+k, page(t, 4, 1, body(1)))
				}
			}
			kill(t, d)
			x, e := index.Open(p, 19, 18)
			if e != c.want || (x != nil) != (e == api.OK) {
				t.Fatalf("Open of %v = %v, %d, want %d", c, x, e, c.want)
			}
		}
	}
}

// asked is how often a pool has looked for a sector at hand or on its disk.
func asked(p *pool.Pool) int { return p.Stats().Hits + p.Stats().Misses }

func TestI2NoPageIsReadBehindTheFirstWrongOne(t *testing.T) {
	for _, bad := range wrongs() {
		for _, third := range []string{page(t, 4, 2, body(2)), text(1)} {
			l := pages(t, 18, at(0)...)
			l[1], l[2] = page(t, 4, 1, bad), third
			p := pooled(t, loaded(t, image(t, 128, 19, l...)), 0)
			refused(t, p, 19, 18, api.ErrIndexForm)
			if n := asked(p); n != 2 {
				t.Fatalf("Open has read %d sectors, want 2", n)
			}
		}
	}
	// One that stood ahead of it is told where it stands again.
	l := at(upTo(18)...)
	l[17].Digest = l[0].Digest
	p := pooled(t, loaded(t, image(t, 128, 19, append(pages(t, 18, l...), text(1))...)), 0)
	refused(t, p, 19, 24, api.ErrIndexForm)
	if n := asked(p); n != 3 {
		t.Fatalf("Open has read %d sectors, want 3", n)
	}
}

func TestI2EachPageIsReadOnce(t *testing.T) {
	for _, count := range counts() {
		_, p, _ := made(t, 0, count, at(upTo(count)...)...)
		if n := asked(p); n != pagesOf(count) {
			t.Fatalf("Open of %d has read %d sectors", count, n)
		}
		refused(t, p, -1, count, api.ErrArg)
		refused(t, p, size, count, api.ErrArg)
		refused(t, p, 19, 0, api.ErrArg)
		if n := asked(p); n != pagesOf(count) {
			t.Fatalf("an Open that is refused by its arguments has read %d sectors", n)
		}
	}
}

func TestI2OpenSeesTheOpenTransaction(t *testing.T) {
	p := pooled(t, loaded(t, image(t, 128, 19, pages(t, 13, at(5)...)...)), 1)
	begin(t, p)
	write(t, p, 20, page(t, 4, 1, body(1, at(6, 11)...)))
	x := opened(t, p, 19, 13)
	tells(t, x, 13, at(5, 6, 11)...)
	dirty(t, p, 20)
	abort(t, p)
	tells(t, x, 13, at(5, 6, 11)...)
	tells(t, opened(t, p, 19, 13), 13, at(5)...)
}

func TestI2OpenChangesNothing(t *testing.T) {
	d := loaded(t, image(t, 128, 19, pages(t, 13, at(5)...)...))
	was := d.Image()
	p := pooled(t, d, 2)
	for range 3 {
		opened(t, p, 19, 13)
		refused(t, p, 20, 13, api.ErrIndexForm)
		answers(t, "Abort", p.Abort(), api.ErrPoolNone)
	}
	begin(t, p)
	write(t, p, 40, text(1))
	opened(t, p, 19, 13)
	refused(t, p, 20, 13, api.ErrIndexForm)
	dirty(t, p, 40)
	holds(t, p, 40, text(1))
	abort(t, p)
	if len(d.Trace()) != 0 || d.Pending() != 0 || !slices.Equal(d.Image(), was) {
		t.Fatalf("acts %v", d.Trace())
	}
}

func TestR2IndexesOverTheSamePages(t *testing.T) {
	_, p, x := made(t, 2, 8, at(1)...)
	few, many := opened(t, p, 19, 7), opened(t, p, 19, 12)
	begin(t, p)
	puts(t, many, at(9)[0], api.OK)
	puts(t, few, at(6)[0], api.OK)
	// Each knows what it has read and changed itself; the page has what all of them have.
	tells(t, many, 12, at(1, 9)...)
	tells(t, few, 7, at(1, 6)...)
	tells(t, x, 8, at(1)...)
	holds(t, p, 20, page(t, 4, 1, body(1, at(6, 9)...)))
	puts(t, x, slot(7, digest(9), 3), api.OK)
	holds(t, p, 20, page(t, 4, 1, body(1, with(at(6, 9), slot(7, digest(9), 3))...)))
	reloads(t, many, api.ErrIndexForm)
	tells(t, many, 12, at(1, 9)...)
	clears(t, many, 9, api.OK)
	for _, x := range []*index.Index{few, x, many} {
		want, l := api.OK, with(at(1, 6), slot(7, digest(9), 3))
		if x == few {
			want, l = api.ErrIndexForm, at(1, 6)
		}
		reloads(t, x, want)
		lists(t, x, l...)
	}
}

func TestR2IndexesSideBySideDoNotDisturbOneAnother(t *testing.T) {
	l := append(pages(t, 8, at(1, 7)...), pages(t, 7, at(0, 6)...)...)
	p := pooled(t, loaded(t, image(t, 128, 19, l...)), 2)
	a, b := opened(t, p, 19, 8), opened(t, p, 21, 7)
	begin(t, p)
	puts(t, a, at(0)[0], api.OK)
	clears(t, b, 6, api.OK)
	puts(t, b, slot(5, digest(1), 9), api.OK)
	tells(t, a, 8, at(0, 1, 7)...)
	tells(t, b, 7, with(at(0), slot(5, digest(1), 9))...)
	dirty(t, p, 19, 21, 22)
	reloads(t, a, api.OK)
	reloads(t, b, api.OK)
	tells(t, a, 8, at(0, 1, 7)...)
	tells(t, b, 7, with(at(0), slot(5, digest(1), 9))...)
}
