package index_test

import (
	"testing"

	"strongbox/api"
)

func TestI6BehindAnAbortAheadOfReloadAndBehindIt(t *testing.T) {
	for _, keep := range []int{0, 1, 64} {
		_, p, x := made(t, keep, 13, at(0, 5, 6)...)
		begin(t, p)
		puts(t, x, slot(5, digest(50), 9), api.OK)
		puts(t, x, slot(12, digest(5), 3), api.OK)
		clears(t, x, 0, api.OK)
		now := with(at(6), slot(5, digest(50), 9), slot(12, digest(5), 3))
		tells(t, x, 13, now...)
		abort(t, p)
		tells(t, x, 13, now...)
		// Also for what a later transaction changes.
		begin(t, p)
		tells(t, x, 13, now...)
		puts(t, x, slot(1, digest(50), 1), api.ErrIndexTwice)
		clears(t, x, 0, api.ErrIndexNone)
		abort(t, p)
		reloads(t, x, api.OK)
		tells(t, x, 13, at(0, 5, 6)...)
		findsNot(t, x, digest(50))
		begin(t, p)
		clears(t, x, 0, api.OK)
		puts(t, x, slot(1, digest(50), 1), api.OK)
		tells(t, x, 13, with(at(5, 6), slot(1, digest(50), 1))...)
	}
}

func TestI6AnAbortThatIsNotReloadedLetsThePagesBeOverwritten(t *testing.T) {
	_, p, x := made(t, 2, 13, at(0, 5)...)
	begin(t, p)
	clears(t, x, 0, api.OK)
	abort(t, p)
	begin(t, p)
	// The index knows nothing of the digest that the page has again.
	puts(t, x, slot(1, digest(0), 4), api.OK)
	holds(t, p, 19, page(t, 4, 0, body(0, with(at(0, 5), slot(1, digest(0), 4))...)))
	tells(t, x, 13, with(at(5), slot(1, digest(0), 4))...)
	reloads(t, x, api.ErrIndexForm)
	tells(t, x, 13, with(at(5), slot(1, digest(0), 4))...)
	abort(t, p)
	reloads(t, x, api.OK)
	tells(t, x, 13, at(0, 5)...)
}

func TestI6ReloadSeesTheOpenTransaction(t *testing.T) {
	for _, keep := range []int{0, 1, 64} {
		_, p, x := made(t, keep, 13, at(5)...)
		begin(t, p)
		reloads(t, x, api.OK)
		tells(t, x, 13, at(5)...)
		puts(t, x, at(12)[0], api.OK)
		reloads(t, x, api.OK)
		tells(t, x, 13, at(5, 12)...)
		write(t, p, 19, page(t, 4, 0, body(0, at(1, 2)...)))
		tells(t, x, 13, at(5, 12)...)
		reloads(t, x, api.OK)
		tells(t, x, 13, at(1, 2, 12)...)
		abort(t, p)
		tells(t, x, 13, at(1, 2, 12)...)
		reloads(t, x, api.OK)
		tells(t, x, 13, at(5)...)
	}
}

func TestI6ReloadNeedsNoTransactionAndChangesNothing(t *testing.T) {
	d, p, x := made(t, 2, 13, at(5)...)
	for range 2 {
		reloads(t, x, api.OK)
		answers(t, "Abort", p.Abort(), api.ErrPoolNone)
		tells(t, x, 13, at(5)...)
	}
	begin(t, p)
	write(t, p, 40, text(1))
	reloads(t, x, api.OK)
	dirty(t, p, 40)
	answers(t, "Begin", p.Begin(), api.ErrPoolOpen)
	if len(d.Trace()) != 0 {
		t.Fatalf("acts %v", d.Trace())
	}
}

func TestI6EachPageIsReadOnce(t *testing.T) {
	for _, count := range counts() {
		_, p, x := made(t, 0, count, at(upTo(count)...)...)
		was := asked(p)
		reloads(t, x, api.OK)
		if n := asked(p) - was; n != pagesOf(count) {
			t.Fatalf("Reload of %d has read %d sectors", count, n)
		}
		tells(t, x, count, at(upTo(count)...)...)
	}
}

func TestI6AReloadThatIsRefusedLeavesWhatWasKnown(t *testing.T) {
	for _, first := range [][]api.Slot{at(0), at(0, 4)} {
		for _, bad := range wrongs() {
			_, p, x := made(t, 0, 18, at(0, 3, 17)...)
			begin(t, p)
			puts(t, x, at(12)[0], api.OK)
			write(t, p, 19, page(t, 4, 0, body(0, first...)))
			write(t, p, 20, page(t, 4, 1, bad))
			was := asked(p)
			for range 2 {
				reloads(t, x, api.ErrIndexForm)
				tells(t, x, 18, at(0, 3, 12, 17)...)
			}
			if asked(p) != was {
				t.Fatal("a page behind the first wrong one has been read")
			}
			dirty(t, p, 19, 20, 21)
			// It goes on, and knows what the pages say when they are right.
			clears(t, x, 12, api.OK)
			write(t, p, 20, page(t, 4, 1, body(1)))
			reloads(t, x, api.OK)
			tells(t, x, 18, with(first, at(17)...)...)
		}
	}
}

func TestI6ReloadRefusesSlotsOfNoPlace(t *testing.T) {
	_, p, x := made(t, 2, 13, at(5, 12)...)
	begin(t, p)
	for i := 13; i < 18; i++ {
		write(t, p, 21, page(t, 4, 2, body(2, at(i)...)))
		reloads(t, x, api.ErrIndexForm)
		for _, s := range noSlots()[500:] {
			write(t, p, 21, page(t, 4, 2, putIn(body(2), i%6, s)))
			reloads(t, x, api.ErrIndexForm)
		}
	}
	tells(t, x, 13, at(5, 12)...)
	write(t, p, 21, page(t, 4, 2, body(2)))
	reloads(t, x, api.OK)
	tells(t, x, 13, at(5)...)
}

func TestI6ReloadRefusesSectorsThatAreNoSuchPage(t *testing.T) {
	for k := range 3 {
		_, p, x := made(t, 2, 18, at(upTo(18)...)...)
		begin(t, p)
		for _, s := range noPages(t, k) {
			write(t, p, 19+k, s)
			reloads(t, x, api.ErrIndexForm)
		}
		tells(t, x, 18, at(upTo(18)...)...)
		abort(t, p)
		reloads(t, x, api.OK)
		tells(t, x, 18, at(upTo(18)...)...)
	}
}

func TestI6OfADeadDisk(t *testing.T) {
	for _, open := range []bool{false, true} {
		d, p, x := made(t, 0, 13, at(5)...)
		want := at(5)
		if open {
			begin(t, p)
			puts(t, x, at(0)[0], api.OK)
			want = at(0, 5)
		}
		kill(t, d)
		for range 2 {
			reloads(t, x, api.ErrDead)
			tells(t, x, 13, want...)
		}
		answers(t, "Crash", d.Crash(nil), api.OK)
		reloads(t, x, api.ErrDead)
		tells(t, x, 13, want...)
		if open {
			puts(t, x, at(1)[0], api.ErrDead)
			clears(t, x, 0, api.ErrDead)
			abort(t, p)
			reloads(t, x, api.ErrDead)
			tells(t, x, 13, want...)
		}
		tells(t, opened(t, pooled(t, d, 0), 19, 13), 13, at(5)...)
	}
}

func TestI6OfTwoWrongPagesTheFirstOneIsTold(t *testing.T) {
	for _, c := range []struct {
		wrong int // by the transaction; those ahead of it are right, if told so
		right bool
		want  api.Errno
	}{
		{0, true, api.ErrIndexForm},
		{1, true, api.ErrIndexForm},
		{2, true, api.ErrIndexForm},
		{3, true, api.OK},
		{1, false, api.ErrDead},
		{2, false, api.ErrDead},
	} {
		d, p, x := made(t, 0, 18, at(5)...)
		begin(t, p)
		for k := range 3 {
			if k < c.wrong && c.right {
				write(t, p, 19+k, page(t, 4, k, body(k)))
			} else if k == c.wrong {
				write(t, p, 19+k, text(1))
			}
		}
		kill(t, d)
		reloads(t, x, c.want)
		if c.want == api.OK {
			tells(t, x, 18)
			continue
		}
		tells(t, x, 18, at(5)...)
	}
}
