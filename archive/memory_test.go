package archive_test

import (
	"math/rand"
	"slices"
	"strings"
	"sync"
	"testing"

	"strongbox/api"
	"strongbox/archive"
)

// roomy is a list with spare room, in which something else stands.
func roomy[T any](list []T, other T) []T {
	return append(slices.Clone(list), other, other, other)[:len(list)]
}

// stays calls something and tells whether lists, and what stands in their spare room, are as they were.
func stays[T comparable](t *testing.T, what string, call func(), lists ...[]T) {
	t.Helper()
	var were [][]T
	for _, list := range lists {
		were = append(were, slices.Clone(list[:cap(list)]))
	}
	call()
	for k, list := range lists {
		if !slices.Equal(list[:cap(list)], were[k]) {
			t.Fatalf("%s: list %d is another one", what, k)
		}
	}
}

// overwrite writes something into a list, and into its spare room.
func overwrite[T any](list []T, something T) {
	list = list[:cap(list)]
	for k := range list {
		list[k] = something
	}
}

// strange is an item that stands where none of the calls may look.
var strange = api.Item{Block: 77, Data: "strange", Wrapped: "strange"}

func TestA10ItemsAreNotWrittenInto(t *testing.T) {
	for _, l := range append(lists(), wrongLists()...) {
		from, to := roomy(l, strange), roomy(row(3, 5, 9), strange)
		s := wantChange(nil, row(4))
		if areRight(l) {
			s = wantChange(l, to)
		}
		stays(t, "RootOf", func() { archive.RootOf(from) }, from)
		stays(t, "Whole", func() { archive.Whole(from) }, from)
		stays(t, "Change", func() { archive.Change(from, to) }, from, to)
		stays(t, "Change", func() { archive.Change(to, from) }, from, to)
		stays(t, "Change", func() { archive.Change(from, from) }, from)
		stays(t, "Apply", func() { archive.Apply(from, s) }, from)
		stays(t, "Apply", func() { archive.Apply(to, s) }, to)
	}
}

// What is left of a list, and what its spare room has, may be right items too: they are not of the list.
func TestA10SpareRoomIsNotRead(t *testing.T) {
	full := first(60)
	for n := range 60 {
		l := full[:n]
		stays(t, "all calls", func() {
			writesWhole(t, l)
			changes(t, "a beginning to all", l, full, wantChange(full[:n:n], full))
			changes(t, "all to a beginning", full, l, wantChange(full, full[:n:n]))
		}, full)
		stays(t, "Apply", func() {
			applies(t, "a beginning to others", l, wantChange(l, row(0, 7, 59)), row(0, 7, 59), api.OK)
		}, full)
	}
}

func TestA10TextsAreNotWrittenInto(t *testing.T) {
	_, archives := states(rand.New(rand.NewSource(16)), 4)
	for n := range len(archives) + 1 {
		list := roomy(archives[:n], "spare")
		stays(t, "Chain", func() { archive.Chain(list) }, list)
		broken := roomy(append([]string{archives[0]}, archives[:n]...), "spare")
		stays(t, "Chain", func() { archive.Chain(broken) }, broken)
	}
	all := wantPack(t, wantWhole(row(7)...), 3, 2)
	for bits := range 1 << 5 {
		list := choice(all, bits)
		slices.Reverse(list)
		list = roomy(list, "spare")
		stays(t, "Unpack", func() { archive.Unpack(list) }, list)
		list = roomy(append(list, "junk"), "spare")
		stays(t, "Unpack", func() { archive.Unpack(list) }, list)
	}
	// The rest of the shards stands in the spare room.
	if got, errno := archive.Unpack(all[:2]); got != "" || errno != api.ErrArchiveShard {
		t.Errorf("Unpack reads the spare room: %d bytes, %d", len(got), errno)
	}
	if got, errno := archive.Chain(archives[:0]); len(got) != 0 || errno != api.ErrArg {
		t.Errorf("Chain reads the spare room: %d items, %d", len(got), errno)
	}
}

func TestA10ListsThatComeOutAreNewMemory(t *testing.T) {
	for _, l := range lists() {
		handed, want := slices.Clone(l), slices.Clone(l)
		whole, stay := wantWhole(l...), wantChange(l, l)
		calls := map[string]func() []api.Item{
			"Read":               func() []api.Item { got, _ := archive.Read(whole); return got },
			"Apply":              func() []api.Item { got, _ := archive.Apply(handed, stay); return got },
			"Chain":              func() []api.Item { got, _ := archive.Chain([]string{whole, stay}); return got },
			"Chain of one":       func() []api.Item { got, _ := archive.Chain([]string{whole}); return got },
			"Apply from nothing": func() []api.Item { got, _ := archive.Apply(nil, wantChange(nil, want)); return got },
		}
		for what, call := range calls {
			one, other := call(), call()
			overwrite(one, strange)
			if !slices.Equal(other, want) || !slices.Equal(handed, want) {
				t.Errorf("%s of %d items shares memory", what, len(l))
			}
			if got := call(); !slices.Equal(got, want) {
				t.Errorf("%s of %d items keeps what it gave", what, len(l))
			}
		}
		got, _ := archive.Apply(handed, stay)
		overwrite(handed, strange)
		if !slices.Equal(got, want) {
			t.Errorf("Apply keeps a list of %d items", len(l))
		}
	}
}

func TestA10ShardsThatComeOutAreNewMemory(t *testing.T) {
	s := wantWhole(row(7)...)
	for _, c := range [][2]int{{1, 0}, {1, 1}, {3, 2}, {16, 8}} {
		one, _ := archive.Pack(s, c[0], c[1])
		other, _ := archive.Pack(s, c[0], c[1])
		overwrite(one, "overwritten")
		if !slices.Equal(other, wantPack(t, s, c[0], c[1])) {
			t.Errorf("Pack by %d and %d shares memory", c[0], c[1])
		}
	}
}

// Lists that are handed in again with other things in them are looked at anew.
func TestA10NothingIsKept(t *testing.T) {
	r := rand.New(rand.NewSource(17))
	l := make([]api.Item, 5)
	shards := make([]string, 3)
	for range 20 {
		for k := range l {
			l[k] = item(10*k+r.Intn(10), r.Intn(99))
		}
		writesWhole(t, l)
		changes(t, "the list to others", l, row(3, 40), wantChange(l, row(3, 40)))
		applies(t, "the list", l, wantChange(l, row(3, 40)), row(3, 40), api.OK)
		s := wantWhole(l...)
		copy(shards, wantPack(t, s, 2, 1))
		unpacks(t, "the list", shards, s)
		shards[1] = "junk"
		unpacksNot(t, "the list", shards)
	}
}

// Any texts and items: each call ends, and answers what the words say.
func TestA10AnythingThatIsHandedIn(t *testing.T) {
	r := rand.New(rand.NewSource(18))
	texts := []string{"", "S", "SA", "SH", checked("SA"), checked("SH"), strings.Repeat("SA", 500), strings.Repeat("\xff", 3000), wantWhole(), wantChange(nil, nil), wantPack(t, wantWhole(), 1, 0)[0]}
	for range 300 {
		texts = append(texts, chanceText(r))
	}
	wrong := wrongLists()
	for _, s := range texts {
		looks(t, "anything", s)
		looksShard(t, "anything", s)
		l := wrong[r.Intn(len(wrong))]
		if r.Intn(3) > 0 {
			l = chanceItems(r)
		}
		want, wantErrno := wantApply(l, s)
		applies(t, "anything", l, s, want, wantErrno)
		list := []string{s, texts[r.Intn(len(texts))], texts[r.Intn(len(texts))]}[:1+r.Intn(3)]
		want, wantErrno = wantChain(list)
		chains(t, "anything", list, want, wantErrno)
		if text, errno := wantUnpack(list); errno == api.OK {
			unpacks(t, "anything", list, text)
		} else {
			unpacksNot(t, "anything", list)
		}
	}
}

func TestA10ManyCallsAtOnce(t *testing.T) {
	from, to := row(1, 2, 3), row(2, 3, 4)
	whole, change := wantWhole(from...), wantChange(from, to)
	chain := []string{whole, change}
	shards := wantPack(t, whole, 3, 2)
	left := shards[2:]
	var group sync.WaitGroup
	for k := range 16 {
		group.Go(func() {
			for n := range 10 {
				own := row(k, k+n+1)
				writesWhole(t, own)
				writesWhole(t, from)
				changes(t, "at once", from, to, change)
				changes(t, "at once", own, from, wantChange(own, from))
				looks(t, "at once", whole)
				looks(t, "at once", change)
				applies(t, "at once", from, change, to, api.OK)
				chains(t, "at once", chain, to, api.OK)
				packs(t, "at once", whole, 3, 2)
				unpacks(t, "at once", left, whole)
				looksShard(t, "at once", shards[k%5])
			}
		})
	}
	group.Wait()
}
