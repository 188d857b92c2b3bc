package archive_test

import (
	"math/rand"
	"slices"
	"testing"

	"strongbox/api"
	"strongbox/archive"
)

// written is a volume as an archive: the first one whole, each other one as a change.
func written(t *testing.T, all [][]api.Item) []string {
	t.Helper()
	var archives []string
	for k, l := range all {
		s, errno := archive.Whole(l)
		if k > 0 {
			s, errno = archive.Change(all[k-1], l)
		}
		if errno != api.OK {
			t.Fatalf("state %d of %d: %d", k, len(all), errno)
		}
		archives = append(archives, s)
	}
	return archives
}

// leadsTo holds a chain to the last state.
func leadsTo(t *testing.T, archives []string, want []api.Item) {
	t.Helper()
	if got, errno := archive.Chain(archives); !slices.Equal(got, want) || errno != api.OK {
		t.Errorf("a chain of %d: %d items, %d, want %d", len(archives), len(got), errno, len(want))
	}
}

// isRefused holds a chain to an error.
func isRefused(t *testing.T, archives []string) {
	t.Helper()
	if got, errno := archive.Chain(archives); len(got) != 0 || errno != api.ErrArchiveBase && errno != api.ErrArchiveKind {
		t.Errorf("a chain of %d that is broken: %d items, %d", len(archives), len(got), errno)
	}
}

// some is so many volumes by chance, of which no two are alike.
func some(r *rand.Rand, n int) [][]api.Item {
	var all [][]api.Item
	for len(all) < n {
		l := chanceItems(r)
		if !slices.ContainsFunc(all, func(m []api.Item) bool { return slices.Equal(l, m) }) {
			all = append(all, l)
		}
	}
	return all
}

func TestA10WhatWasWrittenIsRead(t *testing.T) {
	r := rand.New(rand.NewSource(12))
	for _, l := range append(lists(), some(r, 200)...) {
		s, wrote := archive.Whole(l)
		got, read := archive.Read(s)
		if !slices.Equal(got, l) || wrote != api.OK || read != api.OK {
			t.Errorf("Read of Whole: %d items, %d, %d, want %d", len(got), wrote, read, len(l))
		}
		root, _ := archive.RootOf(l)
		if x, errno := archive.Look(s); x.To != root || errno != api.OK {
			t.Errorf("Look of Whole: %x, %d, want %x", x.To, errno, root)
		}
	}
}

func TestA10WhatAChangeLeadsTo(t *testing.T) {
	r := rand.New(rand.NewSource(13))
	all := append(some(r, 25), nil, first(60))
	for _, from := range all {
		for _, to := range all {
			s, wrote := archive.Change(from, to)
			got, applied := archive.Apply(from, s)
			if !slices.Equal(got, to) || wrote != api.OK || applied != api.OK {
				t.Errorf("Apply of Change: %d items, %d, %d, want %d", len(got), wrote, applied, len(to))
			}
			other := all[r.Intn(len(all))]
			if got, errno := archive.Apply(other, s); !slices.Equal(other, from) && (len(got) != 0 || errno != api.ErrArchiveBase) {
				t.Errorf("Apply to others: %d items, %d", len(got), errno)
			}
		}
	}
}

// To items that differ from what it leads from by one bit, one block, one item, a change is refused.
func TestA10ChangesToItemsNearby(t *testing.T) {
	from, to := row(1, 5, 9), row(5, 7)
	s, _ := archive.Change(from, to)
	x := from[1]
	for _, near := range [][]api.Item{
		with(from, 1, api.Item{Block: x.Block, Data: turned(x.Data, 1000), Wrapped: x.Wrapped}),
		with(from, 1, api.Item{Block: x.Block, Data: x.Data, Wrapped: turned(x.Wrapped, 100)}),
		with(from, 1, api.Item{Block: 4, Data: x.Data, Wrapped: x.Wrapped}),
		from[:2], from[1:], append(slices.Clone(from), item(10, 10)), append(row(0), from...), nil, to,
	} {
		if got, errno := archive.Apply(near, s); len(got) != 0 || errno != api.ErrArchiveBase {
			t.Errorf("Apply to items nearby: %d items, %d", len(got), errno)
		}
	}
}

func TestA10Chains(t *testing.T) {
	r := rand.New(rand.NewSource(14))
	for range 15 {
		all := some(r, 7)
		archives := written(t, all)
		for n := range all {
			leadsTo(t, archives[:n+1], all[n])
		}
		for k := range archives {
			if k < len(archives)-1 {
				isRefused(t, slices.Delete(slices.Clone(archives), k, k+1))
			}
			isRefused(t, slices.Insert(slices.Clone(archives), k, archives[k]))
			for i := range k {
				swapped := slices.Clone(archives)
				swapped[i], swapped[k] = swapped[k], swapped[i]
				isRefused(t, swapped)
			}
		}
	}
}

// A volume that is carried away in shards and brought back is what it was, whichever are lost.
func TestA10CarriedAwayAndBroughtBack(t *testing.T) {
	r := rand.New(rand.NewSource(15))
	for range 40 {
		all := some(r, 1+r.Intn(4))
		archives := written(t, all)
		data, beside := 1+r.Intn(16), r.Intn(9)
		var back []string
		for _, s := range archives {
			shards, packed := archive.Pack(s, data, beside)
			if packed != api.OK || len(shards) != data+beside {
				t.Fatalf("Pack by %d and %d: %d shards, %d", data, beside, len(shards), packed)
			}
			r.Shuffle(len(shards), func(i, j int) { shards[i], shards[j] = shards[j], shards[i] })
			left := data + r.Intn(beside+1)
			got, unpacked := archive.Unpack(mixed(r, shards[:left]))
			if got != s || unpacked != api.OK {
				t.Fatalf("Unpack of %d by %d and %d: %d bytes, %d", left, data, beside, len(got), unpacked)
			}
			if got, errno := archive.Unpack(mixed(r, shards[:data-1])); got != "" || errno != api.ErrArchiveShard {
				t.Fatalf("Unpack of too few by %d and %d: %d bytes, %d", data, beside, len(got), errno)
			}
			back = append(back, got)
		}
		leadsTo(t, back, all[len(all)-1])
	}
}

// All choices of four of six, as the document's example has it.
func TestA10AnyFourOfSix(t *testing.T) {
	s, _ := archive.Whole(row(1, 2, 3))
	shards, errno := archive.Pack(s, 4, 2)
	if errno != api.OK {
		t.Fatalf("Pack: %d", errno)
	}
	for bits := range 1 << 6 {
		left := choice(shards, bits)
		got, errno := archive.Unpack(left)
		if isEnough := len(left) >= 4; isEnough && (got != s || errno != api.OK) || !isEnough && (got != "" || errno != api.ErrArchiveShard) {
			t.Errorf("Unpack of %06b: %d bytes, %d", bits, len(got), errno)
		}
	}
}
