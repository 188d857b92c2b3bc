package bitmap_test

import (
	"math/rand"
	"slices"
	"testing"

	"strongbox/api"
	"strongbox/bitmap"
	"strongbox/disk"
	"strongbox/pool"
)

func TestB4TheExamples(t *testing.T) {
	_, p, m := made(t, 4, 10)
	refusesAlloc(t, m, api.ErrPoolNone)
	begin(t, p)
	allocs(t, m, 0)
	allocs(t, m, 1)
	frees(t, m, 0, api.OK)
	frees(t, m, 0, api.ErrBitmapFree)
	allocs(t, m, 0)
	refusesUsed(t, m, 10, api.ErrBitmapPlace)
	tells(t, m, 10, 0, 1)
	abort(t, p)
	tells(t, m, 10)
	refusesAlloc(t, m, api.ErrPoolNone)
}

func TestB4AllocTakesOneBehindTheOther(t *testing.T) {
	for _, count := range counts() {
		_, p, m := made(t, 2, count)
		begin(t, p)
		for i := range count {
			allocs(t, m, i)
			if slices.Contains(edges(count), i) {
				tells(t, m, count, upTo(i+1)...)
			}
		}
		for range 2 {
			refusesAlloc(t, m, api.ErrBitmapFull)
		}
		tells(t, m, count, upTo(count)...)
		dirty(t, p, from(19, pagesOf(count))...)
		for k := range pagesOf(count) {
			holds(t, p, 19+k, page(t, 3, k, body(k, upTo(count)...)))
		}
	}
}

func TestB4AllocTakesTheLeastFreeOne(t *testing.T) {
	for _, count := range counts() {
		for _, i := range edges(count) {
			for _, last := range edges(count) {
				if last < i {
					continue
				}
				// Free are this one and some behind it.
				full := without(upTo(count), i, last)
				_, p, m := made(t, 2, count, full...)
				begin(t, p)
				allocs(t, m, i)
				dirty(t, p, 19+i/256)
				holds(t, p, 19+i/256, page(t, 3, i/256, body(i/256, append(full, i)...)))
				if last > i {
					lists(t, m, without(upTo(count), last)...)
					allocs(t, m, last)
				}
				lists(t, m, upTo(count)...)
				refusesAlloc(t, m, api.ErrBitmapFull)
			}
		}
	}
}

func TestB4AFullMap(t *testing.T) {
	for _, count := range counts() {
		d, p, m := made(t, 2, count, upTo(count)...)
		refusesAlloc(t, m, api.ErrPoolNone)
		begin(t, p)
		for range 2 {
			refusesAlloc(t, m, api.ErrBitmapFull)
			dirty(t, p)
		}
		frees(t, m, count/2, api.OK)
		allocs(t, m, count/2)
		refusesAlloc(t, m, api.ErrBitmapFull)
		commit(t, p)
		tells(t, m, count, upTo(count)...)
		if l := d.Image()[19 : 19+pagesOf(count)]; !slices.Equal(l, pages(t, count, upTo(count)...)) {
			t.Fatalf("the pages are %q", l)
		}
	}
}

func TestB4FreeOfEachPlace(t *testing.T) {
	for _, count := range counts() {
		for _, i := range edges(count) {
			for _, taken := range [][]int{{i}, upTo(count)} {
				_, p, m := made(t, 2, count, taken...)
				begin(t, p)
				frees(t, m, i, api.OK)
				dirty(t, p, 19+i/256)
				rest := without(taken, i)
				holds(t, p, 19+i/256, page(t, 3, i/256, body(i/256, rest...)))
				lists(t, m, rest...)
				uses(t, m, i, false)
				for range 2 {
					frees(t, m, i, api.ErrBitmapFree)
				}
				lists(t, m, rest...)
				dirty(t, p, 19+i/256)
			}
		}
	}
}

func TestB4FreeRefusesWhatIsFree(t *testing.T) {
	for _, count := range counts() {
		for _, i := range edges(count) {
			_, p, m := made(t, 2, count, without(upTo(count), i)...)
			begin(t, p)
			for range 2 {
				frees(t, m, i, api.ErrBitmapFree)
				dirty(t, p)
			}
			lists(t, m, without(upTo(count), i)...)
		}
	}
}

func TestB4FreeRefusesWhatIsNoPlace(t *testing.T) {
	for _, count := range counts() {
		_, p, m := made(t, 2, count, upTo(count)...)
		for _, i := range noPlaces(count) {
			frees(t, m, i, api.ErrBitmapPlace)
			begin(t, p)
			frees(t, m, i, api.ErrBitmapPlace)
			dirty(t, p)
			abort(t, p)
		}
		lists(t, m, upTo(count)...)
	}
}

// full lets the open transaction have written 16 sectors that are no pages.
func full(t *testing.T, p *pool.Pool) {
	t.Helper()
	for _, i := range from(60, 16) {
		write(t, p, i, text(i))
	}
}

// trouble is what is wrong at once when a call is asked.
type trouble struct {
	none, dead, lost, full bool
}

// in is a map of 300 places, of which these are taken, whose pool keeps nothing at hand, in such trouble.
func (x trouble) in(t *testing.T, taken ...int) (*disk.Disk, *pool.Pool, *bitmap.Map) {
	t.Helper()
	d, p, m := made(t, 0, 300, taken...)
	if !x.none {
		begin(t, p)
		if x.full {
			full(t, p)
		}
	}
	switch {
	case x.lost:
		lose(t, d, p)
	case x.dead:
		kill(t, d)
	}
	return d, p, m
}

// want is the error of such trouble, for one that comes between the disk's and the pool's room, or OK.
func (x trouble) want(own api.Errno) api.Errno {
	switch {
	case x.none:
		return api.ErrPoolNone
	case x.dead || x.lost:
		return api.ErrDead
	case own != api.OK:
		return own
	case x.full:
		return api.ErrPoolFull
	}
	return api.OK
}

// troubles are all of them.
func troubles() []trouble {
	var l []trouble
	for n := range 16 {
		l = append(l, trouble{n&1 > 0, n&2 > 0, n&4 > 0, n&8 > 0})
	}
	return l
}

func TestB4OfSeveralErrorsTheFirstOneIsTold(t *testing.T) {
	all := upTo(300)
	for _, x := range troubles() {
		for _, i := range []int{0, 255, 256, 299} {
			_, p, m := x.in(t, all...)
			was := p.Dirty()
			refusesAlloc(t, m, x.want(api.ErrBitmapFull))
			dirty(t, p, was...)

			_, p, m = x.in(t, without(all, i)...)
			frees(t, m, i, x.want(api.ErrBitmapFree))
			dirty(t, p, was...)
			frees(t, m, 300, api.ErrBitmapPlace)
			frees(t, m, -1, api.ErrBitmapPlace)
			dirty(t, p, was...)

			_, p, m = x.in(t, without(all, i)...)
			if x.want(api.OK) == api.OK {
				allocs(t, m, i)
				dirty(t, p, 19+i/256)
				continue
			}
			refusesAlloc(t, m, x.want(api.OK))
			dirty(t, p, was...)

			_, p, m = x.in(t, all...)
			frees(t, m, i, x.want(api.OK))
			dirty(t, p, was...)
		}
	}
}

func TestB4ARefusedCallOpensNoTransaction(t *testing.T) {
	for _, x := range troubles() {
		if !x.none {
			continue
		}
		d, p, m := x.in(t, 5)
		for range 3 {
			refusesAlloc(t, m, api.ErrPoolNone)
			frees(t, m, 5, api.ErrPoolNone)
			frees(t, m, 6, api.ErrPoolNone)
			answers(t, "Abort", p.Abort(), api.ErrPoolNone)
			answers(t, "Commit", p.Commit(), api.ErrPoolNone)
		}
		if len(d.Trace()) != 0 {
			t.Fatalf("acts %v", d.Trace())
		}
		// Nor does it keep one from being begun.
		want := api.OK
		if x.lost {
			want = api.ErrDead
		}
		answers(t, "Begin", p.Begin(), want)
	}
}

func TestB4ACallEndsNoTransaction(t *testing.T) {
	_, p, m := made(t, 2, 20, 5)
	begin(t, p)
	write(t, p, 40, text(1))
	allocs(t, m, 0)
	frees(t, m, 5, api.OK)
	frees(t, m, 5, api.ErrBitmapFree)
	answers(t, "Begin", p.Begin(), api.ErrPoolOpen)
	dirty(t, p, 19, 40)
	holds(t, p, 40, text(1))
	commit(t, p)
	tells(t, m, 20, 0)
	holds(t, p, 40, text(1))
}

func TestB4ThePageThatIsTheSeventeenthSector(t *testing.T) {
	_, p, m := made(t, 2, 300, upTo(255)...)
	begin(t, p)
	for _, i := range from(60, 15) {
		write(t, p, i, text(i))
	}
	// The sixteenth sector: the first page. The second one would be the seventeenth.
	allocs(t, m, 255)
	was := p.Dirty()
	for range 2 {
		refusesAlloc(t, m, api.ErrPoolFull)
		dirty(t, p, was...)
		lists(t, m, upTo(256)...)
	}
	frees(t, m, 256, api.ErrBitmapFree)
	// The first one goes on being written.
	frees(t, m, 0, api.OK)
	frees(t, m, 128, api.OK)
	allocs(t, m, 0)
	lists(t, m, without(upTo(256), 128)...)
	commit(t, p)
	lists(t, m, without(upTo(256), 128)...)
	begin(t, p)
	allocs(t, m, 128)
	allocs(t, m, 256)
	dirty(t, p, 19, 20)
}

func TestB4FreeInAFullTransaction(t *testing.T) {
	_, p, m := made(t, 2, 300, 5, 299)
	begin(t, p)
	full(t, p)
	frees(t, m, 5, api.ErrPoolFull)
	frees(t, m, 299, api.ErrPoolFull)
	frees(t, m, 6, api.ErrBitmapFree)
	frees(t, m, 300, api.ErrBitmapPlace)
	refusesAlloc(t, m, api.ErrPoolFull)
	dirty(t, p, from(60, 16)...)
	tells(t, m, 300, 5, 299)
	abort(t, p)
	begin(t, p)
	frees(t, m, 5, api.OK)
	allocs(t, m, 0)
}

func TestB4PagesBelowSector19MayBeLookedAtAlone(t *testing.T) {
	// The first page is sector 18, the second one 19.
	d := loaded(t, image(t, 128, 18, pages(t, 300, 5, 299)...))
	p := pooled(t, d, 4)
	m := opened(t, p, 18, 300)
	tells(t, m, 300, 5, 299)
	refusesAlloc(t, m, api.ErrPoolNone)
	frees(t, m, 5, api.ErrPoolNone)
	begin(t, p)
	refusesAlloc(t, m, api.ErrJournalPlace)
	frees(t, m, 5, api.ErrJournalPlace)
	frees(t, m, 6, api.ErrBitmapFree)
	dirty(t, p)
	tells(t, m, 300, 5, 299)
	frees(t, m, 299, api.OK)
	dirty(t, p, 19)
	tells(t, m, 300, 5)
	abort(t, p)
	lose(t, d, p)
	refusesAlloc(t, m, api.ErrPoolNone)
	refusesUsed(t, m, 5, api.ErrDead)
}

func TestB4AMapWhoseFirstPageIsBelowSector19AndFull(t *testing.T) {
	p := pooled(t, loaded(t, image(t, 128, 18, pages(t, 300, upTo(256)...)...)), 4)
	m := opened(t, p, 18, 300)
	begin(t, p)
	allocs(t, m, 256)
	allocs(t, m, 257)
	frees(t, m, 256, api.OK)
	dirty(t, p, 19)
	lists(t, m, append(upTo(256), 257)...)
}

func TestB4EachWritesThePageOfItsPlaceAlone(t *testing.T) {
	for _, at := range []int{19, 20, 124} {
		for k := range 4 {
			d := loaded(t, image(t, 128, at, pages(t, 1024, upTo(256*k)...)...))
			p := pooled(t, d, 2)
			m := opened(t, p, at, 1024)
			begin(t, p)
			allocs(t, m, 256*k)
			dirty(t, p, at+k)
			frees(t, m, 256*k, api.OK)
			dirty(t, p, at+k)
			abort(t, p)
			begin(t, p)
			if k > 0 {
				frees(t, m, 256*k-1, api.OK)
				dirty(t, p, at+k-1)
			}
			abort(t, p)
			if len(d.Trace()) != 0 {
				t.Fatalf("acts %v", d.Trace())
			}
		}
	}
}

func TestB4APageIsWrittenAlsoIfItComesToBeAsItWas(t *testing.T) {
	_, p, m := made(t, 2, 300)
	begin(t, p)
	allocs(t, m, 0)
	frees(t, m, 0, api.OK)
	dirty(t, p, 19)
	holds(t, p, 19, page(t, 3, 0, body(0)))
}

func TestB4OfADeadDiskWhatTheTransactionWroteMayBeTold(t *testing.T) {
	// Whichever pages are read: it is ErrDead, or what would have been.
	for _, keep := range []int{0, 1, 2, 64} {
		d, p, m := made(t, keep, 300)
		begin(t, p)
		allocs(t, m, 0)
		kill(t, d)
		dead := false
		for want := 1; want < 5; want++ {
			i, e := m.Alloc()
			dead = dead || e == api.ErrDead
			if dead && (i != 0 || e != api.ErrDead) || !dead && (i != want || e != api.OK) {
				t.Fatalf("Alloc of a dead disk = %d, %d, want %d, OK or ErrDead for good", i, e, want)
			}
		}
	}
}

func TestB4OfADiskThatIsDeadAndAtHandNowhere(t *testing.T) {
	d, p, m := made(t, 0, 300, 5)
	begin(t, p)
	kill(t, d)
	for range 2 {
		refusesAlloc(t, m, api.ErrDead)
		frees(t, m, 5, api.ErrDead)
		frees(t, m, 6, api.ErrDead)
		frees(t, m, 300, api.ErrBitmapPlace)
		dirty(t, p)
	}
	answers(t, "Crash", d.Crash(nil), api.OK)
	// Once more it is ErrDead, for the pool was lost.
	refusesAlloc(t, m, api.ErrDead)
	abort(t, p)
	refusesAlloc(t, m, api.ErrPoolNone)
	tells(t, opened(t, pooled(t, d, 0), 19, 300), 300, 5)
}

func TestB4AllocOfWhichTheSecondPageCannotBeRead(t *testing.T) {
	d, p, m := made(t, 0, 300)
	begin(t, p)
	write(t, p, 19, page(t, 3, 0, body(0, upTo(256)...)))
	kill(t, d)
	refusesAlloc(t, m, api.ErrDead)
	dirty(t, p, 19)
}

func TestB4ManyAtOnceByChance(t *testing.T) {
	r := rand.New(rand.NewSource(4))
	for _, count := range counts() {
		set := make([]bool, count)
		_, p, m := made(t, 2, count)
		begin(t, p)
		for range 600 {
			if i := r.Intn(count); r.Intn(3) == 0 {
				want := api.OK
				if !set[i] {
					want = api.ErrBitmapFree
				}
				frees(t, m, i, want)
				set[i] = false
				continue
			}
			least := slices.Index(set, false)
			if least < 0 {
				refusesAlloc(t, m, api.ErrBitmapFull)
				continue
			}
			allocs(t, m, least)
			set[least] = true
		}
		lists(t, m, members(set)...)
	}
}

// members are the numbers that are in a set.
func members(set []bool) []int {
	return slices.DeleteFunc(upTo(len(set)), func(i int) bool { return !set[i] })
}
