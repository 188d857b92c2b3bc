package bitmap_test

import (
	"math"
	"math/rand"
	"slices"
	"strings"
	"testing"

	"strongbox/api"
	"strongbox/bitmap"
)

func TestB2OpenFindsWhatInitialGave(t *testing.T) {
	for _, count := range counts() {
		l, e := bitmap.Initial(count)
		answers(t, "Initial", e, api.OK)
		for _, size := range []int{128, 129, 1024} {
			for _, at := range []int{18, 19, 20, size - len(l) - 1, size - len(l)} {
				d := loaded(t, image(t, size, at, l...))
				tells(t, opened(t, pooled(t, d, 4), at, count), count)
				if len(d.Trace()) != 0 {
					t.Fatalf("acts %v", d.Trace())
				}
			}
		}
	}
}

func TestB2OpenFindsAnySet(t *testing.T) {
	r := rand.New(rand.NewSource(1))
	for _, count := range counts() {
		for _, taken := range [][]int{upTo(count), {0}, {count - 1}, some(r, count, 1), some(r, count, 2), some(r, count, 3)} {
			_, _, m := made(t, r.Intn(5), count, taken...)
			tells(t, m, count, taken...)
		}
	}
}

func TestB2APageMayBeTheFirstSector(t *testing.T) {
	for _, count := range []int{1, 8, 256} {
		p := pooled(t, loaded(t, image(t, 128, 0, pages(t, count, count-1)...)), 4)
		tells(t, opened(t, p, 0, count), count, count-1)
	}
	// The second page of this one would be the journal's head.
	p := pooled(t, loaded(t, image(t, 128, 0, pages(t, 257)...)), 4)
	refused(t, p, 0, 257, api.ErrBitmapForm)
}

func TestB2OpenRefusesOtherCounts(t *testing.T) {
	p := pooled(t, loaded(t, image(t, 128, 19, pages(t, 1024)...)), 4)
	for _, count := range noCounts() {
		for _, at := range []int{-1, 0, 19, 127, 128, math.MaxInt, math.MinInt} {
			refused(t, p, at, count, api.ErrArg)
		}
	}
}

func TestB2OpenRefusesPagesThatAreNoSectors(t *testing.T) {
	for _, size := range []int{128, 129, 1024} {
		for _, count := range counts() {
			l := pages(t, count)
			last := size - len(l)
			p := pooled(t, loaded(t, image(t, size, last, l...)), 4)
			opened(t, p, last, count)
			for _, at := range []int{-1, last + 1, -2, -last, -size, last + 2, size - 1 + len(l)/2, size, size + 1, 1 << 32, math.MaxInt, math.MaxInt - 1, math.MaxInt - 3, math.MinInt, math.MinInt + 3} {
				if at <= last && at >= 0 {
					continue
				}
				refused(t, p, at, count, api.ErrArg)
			}
		}
	}
}

func TestB2OpenOfNoPool(t *testing.T) {
	for _, count := range []int{-1, 0, 1, 1024, 1025} {
		for _, at := range []int{-1, 0, 19} {
			refused(t, nil, at, count, api.ErrArg)
		}
	}
}

// noPages are sectors that are not the page of that number of a map, whichever places it has.
func noPages(t *testing.T, number int) []string {
	t.Helper()
	right := page(t, 3, number, body(number))
	l := []string{strings.Repeat("\x00", 256), strings.Repeat("\xff", 256), text(1)}
	for kind := range 256 {
		if kind != 3 {
			l = append(l, page(t, kind, number, body(number)))
		}
	}
	for _, other := range []int{0, 1, 2, 3, 4, number + 1, number + 256, number + 1<<16, number + 1<<24, number + 1<<31, math.MaxUint32} {
		if other != number {
			l = append(l, page(t, 3, other, body(0)))
		}
	}
	for n := range 245 {
		if n != 32 {
			l = append(l, page(t, 3, number, strings.Repeat("\x00", n)))
		}
	}
	// Each of these has one bit of a right page turned.
	for i := range 256 {
		b := []byte(right)
		b[i] ^= 1 << (i % 8)
		l = append(l, string(b))
	}
	return l
}

func TestB2OpenRefusesSectorsThatAreNoSuchPage(t *testing.T) {
	for _, count := range []int{1, 256, 257, 1024} {
		for k := range pagesOf(count) {
			p := pooled(t, loaded(t, image(t, 128, 19, pages(t, count)...)), 4)
			begin(t, p)
			for _, s := range noPages(t, k) {
				write(t, p, 19+k, s)
				refused(t, p, 19, count, api.ErrBitmapForm)
			}
			abort(t, p)
			tells(t, opened(t, p, 19, count), count)
		}
	}
}

func TestB2OpenRefusesWrongPagesOfADisk(t *testing.T) {
	for k := range 4 {
		for _, s := range []string{text(1), page(t, 4, k, body(k)), page(t, 3, k+1, body(k)), page(t, 3, k, body(k)[:31]), page(t, 3, k, body(k)+"\x00")} {
			l := pages(t, 1024)
			l[k] = s
			d := loaded(t, image(t, 128, 19, l...))
			p := pooled(t, d, 0)
			refused(t, p, 19, 1024, api.ErrBitmapForm)
			if k > 0 {
				tells(t, opened(t, p, 19, 256*k), 256*k)
			}
			if len(d.Trace()) != 0 {
				t.Fatalf("acts %v", d.Trace())
			}
		}
	}
}

func TestB2OpenRefusesBitsOfNoPlace(t *testing.T) {
	p := pooled(t, loaded(t, image(t, 128, 19)), 4)
	begin(t, p)
	for _, count := range []int{1, 2, 7, 8, 9, 16, 17, 247, 248, 249, 254, 255, 257, 258, 264, 265, 511, 1017, 1023} {
		l := pages(t, count, upTo(count)...)
		last := len(l) - 1
		for k, s := range l {
			write(t, p, 19+k, s)
		}
		tells(t, opened(t, p, 19, count), count, upTo(count)...)
		for stray := count; stray < 256*len(l); stray++ {
			write(t, p, 19+last, page(t, 3, last, body(last, stray)))
			refused(t, p, 19, count, api.ErrBitmapForm)
			write(t, p, 19+last, page(t, 3, last, body(last, append(upTo(count), stray)...)))
			refused(t, p, 19, count, api.ErrBitmapForm)
			opened(t, p, 19, stray+1)
		}
	}
}

func TestB2OfAMapOfWholePagesEachBitIsAPlaces(t *testing.T) {
	for _, count := range []int{256, 512, 768, 1024} {
		_, _, m := made(t, 2, count, upTo(count)...)
		tells(t, m, count, upTo(count)...)
	}
}

func TestB2OpenOfADeadDisk(t *testing.T) {
	for _, count := range []int{1, 257, 1024} {
		d := loaded(t, image(t, 128, 19, pages(t, count)...))
		p := pooled(t, d, 4)
		kill(t, d)
		for range 2 {
			refused(t, p, 19, count, api.ErrDead)
			// What is there does not matter, if it cannot be read.
			refused(t, p, 18, count, api.ErrDead)
			refused(t, p, 19, 0, api.ErrArg)
			refused(t, p, 19, 1025, api.ErrArg)
			refused(t, p, -1, count, api.ErrArg)
			refused(t, p, 128, count, api.ErrArg)
			refused(t, p, 129-pagesOf(count), count, api.ErrArg)
		}
		// A pool that was lost stays it.
		answers(t, "Crash", d.Crash(nil), api.OK)
		refused(t, p, 19, count, api.ErrDead)
		tells(t, opened(t, pooled(t, d, 4), 19, count), count)
	}
}

func TestB2OpenOfALostPoolWhoseTransactionHasWrittenIt(t *testing.T) {
	d := loaded(t, image(t, 128, 19))
	p := pooled(t, d, 4)
	begin(t, p)
	write(t, p, 19, page(t, 3, 0, body(0)))
	opened(t, p, 19, 8)
	lose(t, d, p)
	refused(t, p, 19, 8, api.ErrDead)
	refused(t, p, 19, 1025, api.ErrArg)
}

func TestB2OfTwoWrongPagesTheFirstOneIsTold(t *testing.T) {
	right, wrong, none := "right", "wrong", "none"
	for _, c := range []struct {
		pages [3]string
		want  api.Errno
	}{
		{[3]string{right, right, right}, api.OK},
		{[3]string{wrong, none, none}, api.ErrBitmapForm},
		{[3]string{wrong, wrong, none}, api.ErrBitmapForm},
		{[3]string{right, wrong, none}, api.ErrBitmapForm},
		{[3]string{wrong, right, none}, api.ErrBitmapForm},
		{[3]string{none, wrong, wrong}, api.ErrDead},
		{[3]string{none, right, wrong}, api.ErrDead},
		{[3]string{right, none, wrong}, api.ErrDead},
		{[3]string{none, none, wrong}, api.ErrDead},
		{[3]string{right, right, none}, api.ErrDead},
	} {
		for _, bad := range []string{text(1), page(t, 3, 7, body(0)), page(t, 4, 0, body(0))} {
			d := loaded(t, image(t, 128, 19, pages(t, 700)...))
			p := pooled(t, d, 0)
			begin(t, p)
			for k, kind := range c.pages {
				switch kind {
				case right:
					write(t, p, 19+k, page(t, 3, k, body(k)))
				case wrong:
					write(t, p, 19+k, bad)
				}
			}
			// What the transaction has written is told by a dead disk's pool too; what stands on the disk alone is not.
			kill(t, d)
			m, e := bitmap.Open(p, 19, 700)
			if e != c.want || (m != nil) != (e == api.OK) {
				t.Fatalf("Open of %v = %v, %d, want %d", c.pages, m, e, c.want)
			}
		}
	}
}

func TestB2BitsOfNoPlaceAreToldBehindThePagesAheadOfThem(t *testing.T) {
	d := loaded(t, image(t, 128, 19, pages(t, 300)...))
	p := pooled(t, d, 0)
	begin(t, p)
	write(t, p, 20, page(t, 3, 1, body(1, 300)))
	refused(t, p, 19, 300, api.ErrBitmapForm)
	kill(t, d)
	refused(t, p, 19, 300, api.ErrDead)
}

func TestB2OpenSeesTheOpenTransaction(t *testing.T) {
	p := pooled(t, loaded(t, image(t, 128, 19, pages(t, 300, 5)...)), 1)
	begin(t, p)
	write(t, p, 20, page(t, 3, 1, body(1, 299)))
	m := opened(t, p, 19, 300)
	tells(t, m, 300, 5, 299)
	dirty(t, p, 20)
	abort(t, p)
	tells(t, m, 300, 5)
	tells(t, opened(t, p, 19, 300), 300, 5)
}

func TestB2TheMapSeesWhatOthersWrite(t *testing.T) {
	for _, keep := range []int{0, 1, 64} {
		_, p, m := made(t, keep, 300, 5)
		tells(t, m, 300, 5)
		begin(t, p)
		write(t, p, 19, page(t, 3, 0, body(0, 0, 255)))
		tells(t, m, 300, 0, 255)
		write(t, p, 20, page(t, 3, 1, body(1, 256, 299)))
		tells(t, m, 300, 0, 255, 256, 299)
		allocs(t, m, 1)
		write(t, p, 19, page(t, 3, 0, body(0, 3)))
		tells(t, m, 300, 3, 256, 299)
		abort(t, p)
		tells(t, m, 300, 5)
		begin(t, p)
		write(t, p, 20, page(t, 3, 1, body(1, 298)))
		commit(t, p)
		tells(t, m, 300, 5, 298)
	}
}

func TestB2OpenChangesNothing(t *testing.T) {
	d := loaded(t, image(t, 128, 19, pages(t, 300, 5)...))
	was := d.Image()
	p := pooled(t, d, 2)
	for range 3 {
		opened(t, p, 19, 300)
		refused(t, p, 20, 300, api.ErrBitmapForm)
		answers(t, "Abort", p.Abort(), api.ErrPoolNone)
	}
	begin(t, p)
	write(t, p, 40, text(1))
	opened(t, p, 19, 300)
	refused(t, p, 20, 300, api.ErrBitmapForm)
	dirty(t, p, 40)
	holds(t, p, 40, text(1))
	abort(t, p)
	if len(d.Trace()) != 0 || d.Pending() != 0 || !slices.Equal(d.Image(), was) {
		t.Fatalf("acts %v", d.Trace())
	}
}

func TestB2MapsOverTheSamePages(t *testing.T) {
	_, p, m := made(t, 2, 20)
	few, many := opened(t, p, 19, 10), opened(t, p, 19, 256)
	begin(t, p)
	for i := range 20 {
		allocs(t, m, i)
	}
	// Bits that are places of another map are none of this one's, which lets them be.
	tells(t, few, 10, upTo(10)...)
	refusesAlloc(t, few, api.ErrBitmapFull)
	tells(t, many, 256, upTo(20)...)
	frees(t, few, 3, api.OK)
	frees(t, few, 10, api.ErrBitmapPlace)
	tells(t, m, 20, without(upTo(20), 3)...)
	allocs(t, few, 3)
	allocs(t, many, 20)
	tells(t, m, 20, upTo(20)...)
	holds(t, p, 19, page(t, 3, 0, body(0, upTo(21)...)))
	refused(t, p, 19, 20, api.ErrBitmapForm)
	abort(t, p)
	tells(t, few, 10)
	tells(t, m, 20)
	tells(t, many, 256)
}

func TestB2MapsSideBySideDoNotDisturbOneAnother(t *testing.T) {
	l := append(pages(t, 300, 1, 299), pages(t, 257, 0, 256)...)
	p := pooled(t, loaded(t, image(t, 128, 19, l...)), 2)
	a, b := opened(t, p, 19, 300), opened(t, p, 21, 257)
	begin(t, p)
	allocs(t, a, 0)
	allocs(t, a, 2)
	frees(t, b, 256, api.OK)
	tells(t, a, 300, 0, 1, 2, 299)
	tells(t, b, 257, 0)
	dirty(t, p, 19, 22)
}
