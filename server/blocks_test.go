package server_test

import (
	"testing"

	"strongbox/api"
)

func TestV5TheDocumentsExampleOfCharges(t *testing.T) {
	b := begun(t, 128)
	charge := func(want int) {
		t.Helper()
		if r := b.does(1, stat()); r.Charge != want {
			t.Errorf("the charge is %d, want %d", r.Charge, want)
		}
	}
	b.asks(0, add(1, 83), api.Done)
	b.asks(1, vol(5), api.Done)
	charge(1)
	b.asks(1, upload(5, 0, 1, 1), api.Done)
	charge(3)
	b.asks(1, upload(5, 1, 2, 2), api.Done)
	charge(4)
	b.asks(1, trim(5, 0), api.Done)
	charge(3)
	b.asks(1, trim(5, 1), api.Done)
	charge(1)
}

func TestV5TheDocumentsExampleOfOneCopy(t *testing.T) {
	b := begun(t, 128)
	for _, k := range []int{1, 2} {
		b.asks(0, add(k, 10), api.Done)
		b.asks(k, vol(1), api.Done)
		b.asks(k, upload(1, 0, 1, k), api.Done)
	}
	if b.totals().Chunks != 1 {
		t.Errorf("there are %d chunks", b.totals().Chunks)
	}
	b.asks(1, trim(1, 0), api.Done)
	b.asks(2, read(1, 0), api.Done)
	b.asks(2, trim(1, 0), api.Done)
	if b.totals().Chunks != 0 {
		t.Errorf("there are %d chunks", b.totals().Chunks)
	}
}

func TestV5BlocksAtTheirEdges(t *testing.T) {
	b := begun(t, 128)
	b.asks(0, add(1, 83), api.Done)
	b.asks(1, vol(1), api.Done)
	for _, i := range []int{60, 61, 63, 128, 255} {
		b.asks(1, upload(1, i, 1, 1), api.OutOfRange)
		b.asks(1, offer(1, i, 1, 1), api.OutOfRange)
		b.asks(1, read(1, i), api.OutOfRange)
		b.asks(1, trim(1, i), api.OutOfRange)
	}
	for _, i := range []int{0, 59, 2, 3, 57} {
		b.asks(1, read(1, i), api.Unmapped)
		b.asks(1, trim(1, i), api.Unmapped)
		b.asks(1, offer(1, i, 1, 1), api.Challenge)
		b.asks(1, upload(1, i, 100+i, i), api.Done)
		b.asks(1, read(1, i), api.Done)
	}
	b.tells()
	for _, i := range []int{59, 0, 57, 3, 2} {
		b.asks(1, trim(1, i), api.Done)
		b.asks(1, trim(1, i), api.Unmapped)
		b.asks(1, read(1, i), api.Unmapped)
	}
	b.tells()
}

// NoVolume is told ahead of OutOfRange, that ahead of OverQuota or Unmapped.
func TestV5WhatIsToldFirstOfABlock(t *testing.T) {
	b := furnished(t, 128)
	b.asks(4, stat(), api.Done) // its quota is used up
	for _, i := range []int{0, 59, 60, 255} {
		for _, r := range []api.Request{upload(98, i, 1, 1), offer(98, i, 1, 1), read(98, i), trim(98, i)} {
			b.asks(4, r, api.NoVolume)
		}
	}
	for _, i := range []int{60, 255} {
		for _, r := range []api.Request{upload(99, i, 1, 1), offer(99, i, 1, 1), read(99, i), trim(99, i)} {
			b.asks(4, r, api.OutOfRange)
		}
	}
	for _, i := range []int{0, 57, 58} {
		b.asks(4, upload(99, i, 1, 1), api.OverQuota)
		b.asks(4, offer(99, i, 1, 1), api.OverQuota)
		b.asks(4, read(99, i), api.Unmapped)
		b.asks(4, trim(99, i), api.Unmapped)
	}
	// Of a block that is mapped nothing more is charged.
	b.asks(4, offer(99, 59, 1, 1), api.Challenge)
	b.asks(4, upload(99, 59, 1, 1), api.Done)
}

// Another tenant's volume is none of the asker's.
func TestV5VolumesOfOthersAreNotSeen(t *testing.T) {
	b := furnished(t, 128)
	for _, k := range []int{2, 3, 4, 8} {
		for _, r := range []api.Request{upload(7, 0, 1, 1), offer(7, 0, 1, 1), read(7, 0), trim(7, 0), unvol(7)} {
			b.asks(k, r, api.NoVolume)
		}
	}
	b.asks(1, read(99, 59), api.NoVolume)
}

// A quota that is used up but for 0, 1 or 2: a block in a leaf that is there costs 1, in another one 2.
func TestV5QuotasThatAreUsedUp(t *testing.T) {
	for rest := range 4 {
		b := begun(t, 128)
		b.asks(0, add(1, 4+rest), api.Done)
		b.asks(1, vol(1), api.Done)
		b.asks(1, vol(2), api.Done)
		b.asks(1, upload(1, 3, 1, 1), api.Done)
		want := func(cost int, s api.Status) api.Status {
			if rest < cost {
				return api.OverQuota
			}
			return s
		}
		for _, c := range []struct{ volume, block, cost int }{{1, 3, 0}, {1, 4, 1}, {1, 5, 1}, {1, 2, 2}, {1, 6, 2}, {2, 3, 2}, {2, 0, 2}} {
			x := b.copied()
			x.asks(1, offer(c.volume, c.block, 1, 2), want(c.cost, api.Challenge))
			x.asks(1, upload(c.volume, c.block, 1, 3), want(c.cost, api.Done))
			x = b.copied()
			x.asks(1, upload(c.volume, c.block, 2, 3), want(c.cost, api.Done))
			if r := x.does(1, stat()); r.Charge != 4 && rest < c.cost || r.Charge != 4+c.cost && rest >= c.cost {
				t.Errorf("a charge of %d of %d", r.Charge, r.Quota)
			}
		}
		x := b.copied()
		x.asks(1, vol(3), want(1, api.Done))
	}
}

// What was given back is there again, to the last bit.
func TestV5WhatIsGivenBackCanBeUsed(t *testing.T) {
	b := begun(t, 128)
	b.asks(0, add(1, 7), api.Done)
	b.asks(1, vol(1), api.Done)
	for n := range 20 {
		for _, i := range []int{3 * n, 3*n + 1, 3*n + 2} {
			b.asks(1, upload(1, i, 1000+i, i), api.Done)
		}
		b.asks(1, vol(2), api.Done)
		b.asks(1, vol(3), api.Done)
		b.asks(1, vol(4), api.OverQuota)
		b.asks(1, upload(1, (3*n+3)%60, 2000, 1), api.OverQuota)
		b.asks(1, unvol(3), api.Done)
		b.asks(1, unvol(2), api.Done)
		for _, i := range []int{3*n + 1, 3*n + 2, 3 * n} {
			b.asks(1, trim(1, i), api.Done)
		}
	}
	b.asks(1, unvol(1), api.Done)
	if want := (api.Totals{Promised: 7, Capacity: 83}); b.totals() != want {
		t.Errorf("Totals = %+v", b.totals())
	}
}

func TestV5AnUploadOverAMappedBlock(t *testing.T) {
	b := furnished(t, 128)
	// Another chunk: the one that was there goes, or stays where another block has it.
	b.asks(1, upload(5, 1, 20, 30), api.Done)
	b.asks(1, upload(5, 0, 21, 31), api.Done)
	// The same one, with another wrapped key and with the same one.
	b.asks(1, upload(5, 1, 20, 32), api.Done)
	b.asks(1, upload(5, 1, 20, 32), api.Done)
	// One that is there already, by itself and by another tenant.
	b.asks(1, upload(5, 1, 21, 33), api.Done)
	b.asks(1, upload(5, 1, 13, 34), api.Done)
	b.asks(1, upload(5, 0, 13, 35), api.Done)
	b.tells()
}

func TestV5AProveOverAMappedBlock(t *testing.T) {
	b := furnished(t, 128)
	b.proves(1, 5, 1, 10, 30, api.Done) // 11 goes
	b.proves(1, 5, 1, 10, 31, api.Done) // the same one
	b.proves(1, 5, 1, 10, 31, api.Done)
	b.proves(1, 5, 0, 13, 32, api.Done) // another one, 10 stays
	b.proves(1, 5, 0, 11, 33, api.Need) // it is gone
	b.proves(2, 5, 6, 13, 34, api.Done)
	// A chunk that only this block has.
	b.proves(4, 99, 59, 14, 35, api.Done)
	b.proves(4, 99, 59, 12, 36, api.Done)
	b.proves(4, 99, 59, 14, 37, api.Need)
	b.tells()
}

// A chunk is where the first upload laid it, the leaf behind it; what is mapped no more is given back behind that.
func TestV5PlacesOfAnUpload(t *testing.T) {
	b := begun(t, 128)
	b.asks(0, add(1, 83), api.Done)
	b.asks(1, vol(1), api.Done)
	b.asks(1, upload(1, 0, 1, 1), api.Done)
	g := b.m.ground
	if g.chunks[text(1)] != 1 || g.leaves[[3]int{1, 1, 0}] != 2 {
		t.Errorf("the places are %v, %v", g.chunks, g.leaves)
	}
	b.asks(1, upload(1, 0, 2, 2), api.Done)
	if g.chunks[text(2)] != 3 {
		t.Errorf("the places are %v", g.chunks)
	}
	b.asks(1, upload(1, 0, 3, 3), api.Done)
	if g.chunks[text(3)] != 1 {
		t.Errorf("the places are %v", g.chunks)
	}
}

func TestV5OneChunkInManyPlaces(t *testing.T) {
	b := begun(t, 128)
	type spot struct{ k, n, i int }
	var spots []spot
	for _, k := range []int{1, 2, 8} {
		b.asks(0, add(k, 25), api.Done)
		for _, n := range []int{1, 99} {
			b.asks(k, vol(n), api.Done)
			for _, i := range []int{0, 1, 30, 59} {
				spots = append(spots, spot{k, n, i})
				if len(spots)%2 == 0 {
					b.proves(k, n, i, 7, len(spots), api.Done)
				} else {
					b.asks(k, upload(n, i, 7, len(spots)), api.Done)
				}
				if b.totals().Chunks != 1 || b.m.ground.counts[text(7)] != len(spots) {
					t.Fatalf("Totals = %+v", b.totals())
				}
			}
		}
	}
	b.tells()
	for n, x := range spots {
		if b.totals().Chunks != 1 {
			t.Fatalf("behind %d there are %d", n, b.totals().Chunks)
		}
		if n%3 == 0 {
			b.asks(x.k, upload(x.n, x.i, 8, n), api.Done)
			b.asks(x.k, trim(x.n, x.i), api.Done)
		} else {
			b.asks(x.k, trim(x.n, x.i), api.Done)
		}
	}
	if b.totals().Chunks != 0 {
		t.Errorf("in the end there are %d", b.totals().Chunks)
	}
	// It is gone: nobody can prove it.
	b.proves(1, 1, 0, 7, 1, api.Need)
}
