package index_test

import (
	"math"
	"slices"
	"strings"
	"testing"

	"strongbox/api"
	"strongbox/disk"
	"strongbox/index"
	"strongbox/pool"
)

func TestI4TheExamples(t *testing.T) {
	_, p, x := made(t, 4, 7)
	a := strings.Repeat("a", 32)
	puts(t, x, slot(3, a, 2), api.ErrPoolNone)
	begin(t, p)
	puts(t, x, slot(3, a, 2), api.OK)
	puts(t, x, slot(4, a, 1), api.ErrIndexTwice)
	puts(t, x, slot(3, a, 65535), api.OK)
	puts(t, x, slot(3, a, 0), api.ErrIndexEntry)
	clears(t, x, 4, api.ErrIndexNone)
	clears(t, x, 7, api.ErrIndexPlace)
	abort(t, p)
	gets(t, x, slot(3, a, 65535))
	reloads(t, x, api.OK)
	refusesGet(t, x, 3, api.ErrIndexNone)
	tells(t, x, 7)
}

func TestI4PutAtEachPlace(t *testing.T) {
	for _, count := range counts() {
		for _, i := range edges(count) {
			for _, l := range [][]api.Slot{nil, without(at(upTo(count)...), i)} {
				_, p, x := made(t, 2, count, l...)
				begin(t, p)
				puts(t, x, at(i)[0], api.OK)
				dirty(t, p, 19+i/6)
				now := with(l, at(i)...)
				holds(t, p, 19+i/6, page(t, 4, i/6, body(i/6, now...)))
				tells(t, x, count, now...)
				tells(t, opened(t, p, 19, count), count, now...)
			}
		}
	}
}

func TestI4PutsByThemselvesFillAnIndex(t *testing.T) {
	for _, count := range []int{1, 5, 6, 7, 12, 96} {
		d, p, x := made(t, 2, count)
		l := at(upTo(count)...)
		begin(t, p)
		for i := range l {
			puts(t, x, l[i], api.OK)
			lists(t, x, l[:i+1]...)
		}
		tells(t, x, count, l...)
		dirty(t, p, from(19, pagesOf(count))...)
		commit(t, p)
		if got := d.Image()[19 : 19+pagesOf(count)]; !slices.Equal(got, pages(t, count, l...)) {
			t.Fatalf("the pages of %d are %q", count, got)
		}
		tells(t, x, count, l...)
	}
}

// noEntries are slots of a place that may not stand there.
func noEntries(place int) []api.Slot {
	var l []api.Slot
	for _, count := range []int{0, -1, 65536, -65535, 65537, 1 << 16 << 8, 1<<32 + 1, math.MaxInt, math.MinInt, math.MinInt + 1} {
		l = append(l, slot(place, digest(60), count))
	}
	for _, s := range []string{"", "d", digest(60)[:31], digest(60) + "d", digest(60) + digest(60), strings.Repeat("d", 31), strings.Repeat("\x00", 33), strings.Repeat("d", 256)} {
		l = append(l, slot(place, s, 1), slot(place, s, 0), slot(place, s, 65535), slot(place, s, 65536))
	}
	return l
}

func TestI4PutRefusesEntriesThatMayNotBe(t *testing.T) {
	for _, count := range []int{1, 6, 7, 1024} {
		for _, i := range edges(count) {
			for _, l := range [][]api.Slot{nil, at(i)} {
				_, p, x := made(t, 2, count, l...)
				for _, s := range noEntries(i) {
					puts(t, x, s, api.ErrIndexEntry)
				}
				begin(t, p)
				for _, s := range noEntries(i) {
					puts(t, x, s, api.ErrIndexEntry)
				}
				dirty(t, p)
				lists(t, x, l...)
			}
		}
	}
}

func TestI4EdgesOfCountsThatMayStand(t *testing.T) {
	_, p, x := made(t, 2, 7)
	begin(t, p)
	for _, n := range []int{1, 2, 255, 256, 257, 32767, 32768, 65534, 65535} {
		puts(t, x, slot(6, digest(6), n), api.OK)
		tells(t, x, 7, slot(6, digest(6), n))
		holds(t, p, 20, page(t, 4, 1, body(1, slot(6, digest(6), n))))
	}
}

func TestI4AnyBytesMayBeADigest(t *testing.T) {
	_, p, x := made(t, 2, 8)
	begin(t, p)
	var l []api.Slot
	for i, s := range []string{none()[:32], strings.Repeat("\xff", 32), "\x01" + none()[:31], none()[:31] + "\x01", "SB\x04" + none()[:29], "ä" + none()[:30], strings.Repeat("\x80", 32)} {
		l = append(l, slot(i, s, 1))
		puts(t, x, l[i], api.OK)
	}
	lists(t, x, l...)
	for _, s := range l {
		finds(t, x, s.Digest, s.Place)
	}
	reloads(t, x, api.OK)
	lists(t, x, l...)
}

func TestI4PutRefusesWhatIsNoPlace(t *testing.T) {
	for _, count := range counts() {
		_, p, x := made(t, 2, count, at(upTo(count)...)...)
		for _, i := range noPlaces(count) {
			for _, s := range []api.Slot{slot(i, digest(5000), 1), slot(i, digest(0), 1), slot(i, "", 1), slot(i, digest(5000), 0)} {
				puts(t, x, s, api.ErrIndexPlace)
				begin(t, p)
				puts(t, x, s, api.ErrIndexPlace)
				dirty(t, p)
				abort(t, p)
			}
		}
		lists(t, x, at(upTo(count)...)...)
	}
}

func TestI4TheDigestThatStandsAtTheSamePlace(t *testing.T) {
	for _, i := range []int{0, 5, 6, 12} {
		_, p, x := made(t, 2, 13, at(upTo(13)...)...)
		begin(t, p)
		s := at(i)[0]
		// Also as it stood: the page is written nevertheless.
		puts(t, x, s, api.OK)
		dirty(t, p, 19+i/6)
		tells(t, x, 13, at(upTo(13)...)...)
		s.Count = 60000
		puts(t, x, s, api.OK)
		tells(t, x, 13, with(at(upTo(13)...), s)...)
		holds(t, p, 19+i/6, page(t, 4, i/6, body(i/6, with(at(upTo(13)...), s)...)))
	}
}

func TestI4TheDigestThatStandsAtAnotherPlace(t *testing.T) {
	for _, i := range []int{0, 5, 6, 12} {
		for _, j := range []int{0, 1, 5, 6, 7, 11, 12} {
			if i == j {
				continue
			}
			for _, l := range [][]api.Slot{at(i), at(upTo(13)...)} {
				_, p, x := made(t, 2, 13, l...)
				puts(t, x, slot(j, digest(i), 3), api.ErrPoolNone)
				begin(t, p)
				puts(t, x, slot(j, digest(i), 3), api.ErrIndexTwice)
				puts(t, x, slot(j, digest(i), 0), api.ErrIndexEntry)
				dirty(t, p)
				tells(t, x, 13, l...)
			}
		}
	}
}

func TestI4TheDigestOfOneThatWasCleared(t *testing.T) {
	for _, j := range []int{0, 4, 5, 6, 12} {
		_, p, x := made(t, 2, 13, at(5)...)
		begin(t, p)
		clears(t, x, 5, api.OK)
		findsNot(t, x, digest(5))
		puts(t, x, slot(j, digest(5), 3), api.OK)
		tells(t, x, 13, slot(j, digest(5), 3))
		finds(t, x, digest(5), j)
		reloads(t, x, api.OK)
		tells(t, x, 13, slot(j, digest(5), 3))
	}
}

func TestI4TheDigestOfOneThatWasReplaced(t *testing.T) {
	for _, j := range []int{0, 4, 6, 12} {
		_, p, x := made(t, 2, 13, at(5)...)
		begin(t, p)
		puts(t, x, slot(5, digest(50), 9), api.OK)
		findsNot(t, x, digest(5))
		tells(t, x, 13, slot(5, digest(50), 9))
		puts(t, x, slot(j, digest(5), 3), api.OK)
		tells(t, x, 13, with([]api.Slot{slot(5, digest(50), 9)}, slot(j, digest(5), 3))...)
		// What came in its stead is where it is, and cannot stand elsewhere.
		puts(t, x, slot(j, digest(50), 3), api.ErrIndexTwice)
		puts(t, x, slot(5, digest(5), 3), api.ErrIndexTwice)
		puts(t, x, slot(j, digest(51), 3), api.OK)
		puts(t, x, slot(5, digest(5), 3), api.OK)
		want := with([]api.Slot{slot(5, digest(5), 3)}, slot(j, digest(51), 3))
		tells(t, x, 13, want...)
		findsNot(t, x, digest(50))
		reloads(t, x, api.OK)
		tells(t, x, 13, want...)
	}
}

func TestI5ClearOfEachPlace(t *testing.T) {
	for _, count := range counts() {
		for _, i := range edges(count) {
			for _, l := range [][]api.Slot{at(i), at(upTo(count)...)} {
				_, p, x := made(t, 2, count, l...)
				begin(t, p)
				clears(t, x, i, api.OK)
				dirty(t, p, 19+i/6)
				rest := without(l, i)
				holds(t, p, 19+i/6, page(t, 4, i/6, body(i/6, rest...)))
				tells(t, x, count, rest...)
				findsNot(t, x, digest(i))
				for range 2 {
					clears(t, x, i, api.ErrIndexNone)
				}
				dirty(t, p, 19+i/6)
				tells(t, opened(t, p, 19, count), count, rest...)
			}
		}
	}
}

func TestI5ClearRefusesWhereNothingStands(t *testing.T) {
	for _, count := range counts() {
		for _, i := range edges(count) {
			rest := without(at(upTo(count)...), i)
			_, p, x := made(t, 2, count, rest...)
			begin(t, p)
			for range 2 {
				clears(t, x, i, api.ErrIndexNone)
				dirty(t, p)
			}
			lists(t, x, rest...)
		}
	}
}

func TestI5ClearRefusesWhatIsNoPlace(t *testing.T) {
	for _, count := range counts() {
		_, p, x := made(t, 2, count, at(upTo(count)...)...)
		for _, i := range noPlaces(count) {
			clears(t, x, i, api.ErrIndexPlace)
			begin(t, p)
			clears(t, x, i, api.ErrIndexPlace)
			dirty(t, p)
			abort(t, p)
		}
		lists(t, x, at(upTo(count)...)...)
	}
}

// full lets the open transaction have written 16 sectors that are no pages.
func full(t *testing.T, p *pool.Pool) {
	t.Helper()
	for _, i := range from(60, 16) {
		write(t, p, i, text(i))
	}
}

// trouble is what is wrong at once when a call is asked.
type trouble struct {
	none, dead, lost, full bool
}

// in is an index of 13 places, at which at(0, 5, 6, 12) stands, whose pool keeps nothing at hand, in such trouble.
func (w trouble) in(t *testing.T) (*disk.Disk, *pool.Pool, *index.Index) {
	t.Helper()
	d, p, x := made(t, 0, 13, at(0, 5, 6, 12)...)
	if !w.none {
		begin(t, p)
		if w.full {
			full(t, p)
		}
	}
	switch {
	case w.lost:
		lose(t, d, p)
	case w.dead:
		kill(t, d)
	}
	return d, p, x
}

// want is the error of such trouble, for one that comes ahead of the disk's, or OK.
func (w trouble) want(own api.Errno) api.Errno {
	switch {
	case w.none:
		return api.ErrPoolNone
	case own != api.OK:
		return own
	case w.dead || w.lost:
		return api.ErrDead
	case w.full:
		return api.ErrPoolFull
	}
	return api.OK
}

// troubles are all of them.
func troubles() []trouble {
	var l []trouble
	for n := range 16 {
		l = append(l, trouble{n&1 > 0, n&2 > 0, n&4 > 0, n&8 > 0})
	}
	return l
}

func TestI4OfSeveralErrorsTheFirstOneIsTold(t *testing.T) {
	stands := at(0, 5, 6, 12)
	for _, w := range troubles() {
		for _, i := range []int{0, 1, 5, 6, 7, 12} {
			// The place, then the entry, then the transaction, then the digest.
			other := digest([]int{12, 0}[i/12])
			for _, c := range []struct {
				s    api.Slot
				want api.Errno
			}{
				{slot(13, "", 0), api.ErrIndexPlace},
				{slot(-1, other, 65536), api.ErrIndexPlace},
				{slot(13, other, 1), api.ErrIndexPlace},
				{slot(-1, digest(70), 1), api.ErrIndexPlace},
				{slot(i, other, 0), api.ErrIndexEntry},
				{slot(i, other[:31], 1), api.ErrIndexEntry},
				{slot(i, digest(70), 65536), api.ErrIndexEntry},
				{slot(i, other, 1), w.want(api.ErrIndexTwice)},
				{slot(i, digest(70), 1), w.want(api.OK)},
			} {
				_, p, x := w.in(t)
				was, n := p.Dirty(), asked(p)
				puts(t, x, c.s, c.want)
				if c.want == api.OK {
					lists(t, x, with(stands, c.s)...)
					dirty(t, p, 19+i/6)
					continue
				}
				tells(t, x, 13, stands...)
				dirty(t, p, was...)
				if c.want != api.ErrDead && c.want != api.ErrPoolFull && asked(p) != n {
					t.Fatalf("Put(%v), which is refused by %d, has read", c.s, c.want)
				}
			}
		}
	}
}

func TestI5OfSeveralErrorsTheFirstOneIsTold(t *testing.T) {
	stands := at(0, 5, 6, 12)
	for _, w := range troubles() {
		for _, c := range []struct {
			i    int
			want api.Errno
		}{
			{-1, api.ErrIndexPlace},
			{13, api.ErrIndexPlace},
			{1, w.want(api.ErrIndexNone)},
			{7, w.want(api.ErrIndexNone)},
			{0, w.want(api.OK)},
			{5, w.want(api.OK)},
			{6, w.want(api.OK)},
			{12, w.want(api.OK)},
		} {
			_, p, x := w.in(t)
			was, n := p.Dirty(), asked(p)
			clears(t, x, c.i, c.want)
			if c.want == api.OK {
				tells(t, x, 13, without(stands, c.i)...)
				dirty(t, p, 19+c.i/6)
				continue
			}
			tells(t, x, 13, stands...)
			dirty(t, p, was...)
			if c.want != api.ErrDead && c.want != api.ErrPoolFull && asked(p) != n {
				t.Fatalf("Clear(%d), which is refused by %d, has read", c.i, c.want)
			}
		}
	}
}

func TestI4ARefusedCallOpensNoTransaction(t *testing.T) {
	for _, w := range troubles() {
		if !w.none {
			continue
		}
		d, p, x := w.in(t)
		for range 3 {
			puts(t, x, at(1)[0], api.ErrPoolNone)
			puts(t, x, slot(1, digest(0), 1), api.ErrPoolNone)
			clears(t, x, 0, api.ErrPoolNone)
			clears(t, x, 1, api.ErrPoolNone)
			answers(t, "Abort", p.Abort(), api.ErrPoolNone)
			answers(t, "Commit", p.Commit(), api.ErrPoolNone)
		}
		if len(d.Trace()) != 0 {
			t.Fatalf("acts %v", d.Trace())
		}
		// Nor does it keep one from being begun.
		want := api.OK
		if w.lost {
			want = api.ErrDead
		}
		answers(t, "Begin", p.Begin(), want)
		tells(t, x, 13, at(0, 5, 6, 12)...)
	}
}

func TestI4ACallEndsNoTransaction(t *testing.T) {
	_, p, x := made(t, 2, 13, at(5)...)
	begin(t, p)
	write(t, p, 40, text(1))
	puts(t, x, at(0)[0], api.OK)
	puts(t, x, slot(1, digest(0), 1), api.ErrIndexTwice)
	clears(t, x, 5, api.OK)
	clears(t, x, 5, api.ErrIndexNone)
	reloads(t, x, api.OK)
	answers(t, "Begin", p.Begin(), api.ErrPoolOpen)
	dirty(t, p, 19, 40)
	holds(t, p, 40, text(1))
	commit(t, p)
	tells(t, x, 13, at(0)...)
	holds(t, p, 40, text(1))
}

func TestI4ThePageThatIsTheSeventeenthSector(t *testing.T) {
	_, p, x := made(t, 2, 13, at(12)...)
	begin(t, p)
	for _, i := range from(60, 15) {
		write(t, p, i, text(i))
	}
	// The sixteenth sector: the first page. The others would be the seventeenth.
	puts(t, x, at(5)[0], api.OK)
	was := p.Dirty()
	for range 2 {
		puts(t, x, at(6)[0], api.ErrPoolFull)
		puts(t, x, slot(12, digest(50), 1), api.ErrPoolFull)
		puts(t, x, at(12)[0], api.ErrPoolFull)
		clears(t, x, 12, api.ErrPoolFull)
		puts(t, x, slot(6, digest(5), 1), api.ErrIndexTwice)
		clears(t, x, 6, api.ErrIndexNone)
		dirty(t, p, was...)
		tells(t, x, 13, at(5, 12)...)
		findsNot(t, x, digest(6))
		findsNot(t, x, digest(50))
	}
	// The first one goes on being written.
	puts(t, x, at(0)[0], api.OK)
	clears(t, x, 5, api.OK)
	puts(t, x, at(5)[0], api.OK)
	holds(t, p, 19, page(t, 4, 0, body(0, at(0, 5)...)))
	holds(t, p, 20, page(t, 4, 1, body(1)))
	holds(t, p, 21, page(t, 4, 2, body(2, at(12)...)))
	commit(t, p)
	tells(t, x, 13, at(0, 5, 12)...)
	reloads(t, x, api.OK)
	tells(t, x, 13, at(0, 5, 12)...)
	begin(t, p)
	puts(t, x, at(6)[0], api.OK)
	clears(t, x, 12, api.OK)
	dirty(t, p, 20, 21)
}

func TestI4SixteenPagesOfItsOwn(t *testing.T) {
	_, p, x := made(t, 2, 110)
	begin(t, p)
	for i := range 16 {
		puts(t, x, at(6 * i)[0], api.OK)
	}
	puts(t, x, at(96)[0], api.ErrPoolFull)
	for i := range 16 {
		puts(t, x, at(6*i + 5)[0], api.OK)
	}
	puts(t, x, at(101)[0], api.ErrPoolFull)
	dirty(t, p, from(19, 16)...)
	commit(t, p)
	if l := x.Each(); len(l) != 32 {
		t.Fatalf("Each = %v", l)
	}
}

func TestI4PagesBelowSector19MayBeLookedAtAlone(t *testing.T) {
	// The first page is sector 18, the second one 19.
	d := loaded(t, image(t, 128, 18, pages(t, 12, at(5, 11)...)...))
	p := pooled(t, d, 4)
	x := opened(t, p, 18, 12)
	puts(t, x, at(0)[0], api.ErrPoolNone)
	begin(t, p)
	puts(t, x, at(0)[0], api.ErrJournalPlace)
	puts(t, x, at(5)[0], api.ErrJournalPlace)
	clears(t, x, 5, api.ErrJournalPlace)
	puts(t, x, slot(0, digest(11), 1), api.ErrIndexTwice)
	clears(t, x, 0, api.ErrIndexNone)
	dirty(t, p)
	tells(t, x, 12, at(5, 11)...)
	clears(t, x, 11, api.OK)
	puts(t, x, at(6)[0], api.OK)
	dirty(t, p, 19)
	tells(t, x, 12, at(5, 6)...)
	reloads(t, x, api.OK)
	tells(t, x, 12, at(5, 6)...)
}

func TestI4EachWritesThePageOfItsPlaceAlone(t *testing.T) {
	for _, first := range []int{19, 20, size - 171} {
		for _, k := range []int{0, 1, 2, 100, 170} {
			d := loaded(t, image(t, size, first, pages(t, 1024)...))
			p := pooled(t, d, 2)
			x := opened(t, p, first, 1024)
			begin(t, p)
			puts(t, x, at(6 * k)[0], api.OK)
			dirty(t, p, first+k)
			clears(t, x, 6*k, api.OK)
			dirty(t, p, first+k)
			holds(t, p, first+k, page(t, 4, k, body(k)))
			abort(t, p)
			begin(t, p)
			if k > 0 {
				puts(t, x, at(6*k - 1)[0], api.OK)
				dirty(t, p, first+k-1)
			}
			if len(d.Trace()) != 0 {
				t.Fatalf("acts %v", d.Trace())
			}
		}
	}
}

func TestI4APageIsWrittenAlsoIfItsBytesAreAsTheyWere(t *testing.T) {
	_, p, x := made(t, 2, 13, at(0, 12)...)
	begin(t, p)
	puts(t, x, at(12)[0], api.OK)
	dirty(t, p, 21)
	holds(t, p, 21, page(t, 4, 2, body(2, at(12)...)))
	// The page has lost what is still known: it is cleared there once more.
	write(t, p, 19, page(t, 4, 0, body(0)))
	commit(t, p)
	begin(t, p)
	clears(t, x, 0, api.OK)
	dirty(t, p, 19)
	holds(t, p, 19, page(t, 4, 0, body(0)))
}

func TestI4EachReadsThePageOfItsPlaceAndNoOtherSector(t *testing.T) {
	calls := []func(x *index.Index, i int) api.Errno{
		func(x *index.Index, i int) api.Errno { return x.Put(slot(i, digest(5000), 4)) },
		func(x *index.Index, i int) api.Errno { return x.Put(slot(i, digest(i), 4)) },
		func(x *index.Index, i int) api.Errno { return x.Clear(i) },
	}
	for k, call := range calls {
		for _, i := range edges(1024) {
			// Nothing is kept at hand: each Read of what is not written asks the disk.
			_, p, x := made(t, 0, 1024, at(upTo(1024)...)...)
			begin(t, p)
			was := asked(p)
			answers(t, "a change", call(x, i), api.OK)
			if n := asked(p) - was; n != 1 {
				t.Fatalf("call %d at %d has read %d sectors, want 1", k, i, n)
			}
			// The disk is dead, but the page is the transaction's.
			d, p, x := made(t, 0, 1024, at(upTo(1024)...)...)
			begin(t, p)
			write(t, p, 19+i/6, page(t, 4, i/6, body(i/6, at(upTo(1024)...)...)))
			kill(t, d)
			answers(t, "a change", call(x, i), api.OK)
			dirty(t, p, 19+i/6)
			// All others are: the page itself is asked for.
			d, p, x = made(t, 0, 96, at(upTo(96)...)...)
			begin(t, p)
			if i >= 96 {
				continue
			}
			for j := range 16 {
				if j != i/6 {
					write(t, p, 19+j, page(t, 4, j, body(j, at(upTo(96)...)...)))
				}
			}
			kill(t, d)
			answers(t, "a change", call(x, i), api.ErrDead)
			tells(t, x, 96, at(upTo(96)...)...)
		}
	}
}

func TestI4OtherSlotsOfThePageStayAsTheyStoodInIt(t *testing.T) {
	_, p, x := made(t, 2, 13, at(0, 5, 6)...)
	begin(t, p)
	// By others: the index does not know of it.
	write(t, p, 19, page(t, 4, 0, body(0, slot(1, digest(80), 8), slot(3, digest(81), 9), slot(5, digest(82), 10))))
	puts(t, x, slot(3, digest(3), 7), api.OK)
	now := []api.Slot{slot(1, digest(80), 8), slot(3, digest(3), 7), slot(5, digest(82), 10)}
	holds(t, p, 19, page(t, 4, 0, body(0, now...)))
	tells(t, x, 13, with(at(0, 5, 6), slot(3, digest(3), 7))...)
	clears(t, x, 5, api.OK)
	holds(t, p, 19, page(t, 4, 0, body(0, now[:2]...)))
	tells(t, x, 13, with(at(0, 6), slot(3, digest(3), 7))...)
	// It tells of what it knows: not of the page.
	clears(t, x, 1, api.ErrIndexNone)
	puts(t, x, slot(2, digest(6), 1), api.ErrIndexTwice)
	puts(t, x, slot(2, digest(80), 1), api.OK)
	holds(t, p, 19, page(t, 4, 0, body(0, with(now[:2], slot(2, digest(80), 1))...)))
	dirty(t, p, 19)
	abort(t, p)
	reloads(t, x, api.OK)
	tells(t, x, 13, at(0, 5, 6)...)
}

func TestI4OfADiskThatIsDeadAndAtHandNowhere(t *testing.T) {
	d, p, x := made(t, 0, 13, at(5)...)
	begin(t, p)
	kill(t, d)
	for range 2 {
		puts(t, x, at(0)[0], api.ErrDead)
		puts(t, x, at(5)[0], api.ErrDead)
		clears(t, x, 5, api.ErrDead)
		puts(t, x, slot(0, digest(5), 1), api.ErrIndexTwice)
		clears(t, x, 0, api.ErrIndexNone)
		clears(t, x, 13, api.ErrIndexPlace)
		dirty(t, p)
		tells(t, x, 13, at(5)...)
	}
	answers(t, "Crash", d.Crash(nil), api.OK)
	// Once more it is ErrDead, for the pool was lost.
	puts(t, x, at(0)[0], api.ErrDead)
	reloads(t, x, api.ErrDead)
	abort(t, p)
	puts(t, x, at(0)[0], api.ErrPoolNone)
	reloads(t, x, api.ErrDead)
	tells(t, x, 13, at(5)...)
	tells(t, opened(t, pooled(t, d, 0), 19, 13), 13, at(5)...)
}

func TestI4OfADeadDiskWhosePagesAreAtHand(t *testing.T) {
	d, p, x := made(t, 64, 13, at(5)...)
	begin(t, p)
	kill(t, d)
	// It need not be asked.
	puts(t, x, at(0)[0], api.OK)
	clears(t, x, 5, api.OK)
	tells(t, x, 13, at(0)...)
	answers(t, "Commit", p.Commit(), api.ErrDead)
	tells(t, x, 13, at(0)...)
	reloads(t, x, api.ErrDead)
	tells(t, x, 13, at(0)...)
	puts(t, x, at(1)[0], api.ErrPoolNone)
}

func TestR5PagesThatOthersSpoiledAreNotWritten(t *testing.T) {
	_, p, x := made(t, 2, 13, at(5, 6)...)
	begin(t, p)
	for _, s := range noPages(t, 1) {
		write(t, p, 20, s)
		puts(t, x, at(6)[0], api.ErrIndexForm)
		puts(t, x, at(7)[0], api.ErrIndexForm)
		clears(t, x, 6, api.ErrIndexForm)
		clears(t, x, 7, api.ErrIndexNone)
		holds(t, p, 20, s)
	}
	tells(t, x, 13, at(5, 6)...)
	puts(t, x, at(0)[0], api.OK)
	abort(t, p)
	reloads(t, x, api.OK)
	tells(t, x, 13, at(5, 6)...)
}
