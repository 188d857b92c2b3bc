package archive_test

import (
	"encoding/hex"
	"math/rand"
	"slices"
	"testing"

	"strongbox/api"
	"strongbox/archive"
)

// writesWhole holds Whole and RootOf to what they must be.
func writesWhole(t *testing.T, l []api.Item) {
	t.Helper()
	if got, errno := archive.Whole(l); got != wantWhole(l...) || errno != api.OK {
		t.Errorf("Whole of %d items: %x, %d", len(l), got, errno)
	}
	if got, errno := archive.RootOf(l); got != wantRoot(l...) || errno != api.OK {
		t.Errorf("RootOf of %d items: %x, %d", len(l), got, errno)
	}
}

// changes holds Change to a text.
func changes(t *testing.T, what string, from, to []api.Item, want string) {
	t.Helper()
	if model := wantChange(from, to); model != want {
		t.Fatalf("%s: the model says %x", what, model)
	}
	if got, errno := archive.Change(from, to); got != want || errno != api.OK {
		t.Errorf("Change of %s: %x, %d, want %x", what, got, errno, want)
	}
}

func TestA1Examples(t *testing.T) {
	none, _ := hex.DecodeString("e3b0c44298fc1c149afbf4c8996fb92427ae41e4649b934ca495991b7852b855")
	want := checked("SA\x01" + string(none) + string(none) + "\x00\x00")
	for _, l := range [][]api.Item{nil, {}} {
		if got, errno := archive.Whole(l); got != want || len(got) != 73 || errno != api.OK {
			t.Errorf("Whole of nothing: %x, %d", got, errno)
		}
		if got, errno := archive.RootOf(l); got != string(none) || errno != api.OK {
			t.Errorf("RootOf nothing: %x, %d", got, errno)
		}
	}
	if got, errno := archive.Whole(row(7)); len(got) != 378 || errno != api.OK {
		t.Errorf("Whole of one item: %d bytes, %d", len(got), errno)
	}
}

// The root of one item is the digest of a leaf, of two that of a node over two leaves, of three and five as the tree's words say.
func TestA1RootsByHand(t *testing.T) {
	l := row(0, 5, 9, 33, 59)
	var leaf []string
	for _, x := range l {
		leaf = append(leaf, sum("\x00"+string([]byte{byte(x.Block)})+x.Wrapped+x.Data))
	}
	two := sum("\x01" + leaf[0] + leaf[1])
	four := sum("\x01" + two + sum("\x01"+leaf[2]+leaf[3]))
	for n, want := range map[int]string{1: leaf[0], 2: two, 3: sum("\x01" + two + leaf[2]), 4: four, 5: sum("\x01" + four + leaf[4])} {
		if got, errno := archive.RootOf(l[:n]); got != want || errno != api.OK {
			t.Errorf("RootOf %d items: %x, %d, want %x", n, got, errno, want)
		}
	}
}

func TestA1WholeByHand(t *testing.T) {
	x, y := item(0, 1), item(59, 2)
	want := checked("SA\x01" + sum("") + wantRoot(x, y) + "\x02\x00" + "\x00" + x.Wrapped + x.Data + "\x3b" + y.Wrapped + y.Data)
	if got, errno := archive.Whole([]api.Item{x, y}); got != want || errno != api.OK {
		t.Errorf("Whole: %x, %d, want %x", got, errno, want)
	}
}

func TestA1AllNumbersOfItems(t *testing.T) {
	for n := range 61 {
		writesWhole(t, first(n))
		writesWhole(t, first(60)[60-n:])
	}
	for block := range 60 {
		writesWhole(t, row(block))
	}
	for _, l := range lists() {
		writesWhole(t, l)
	}
	// Two items may have the same bytes, and any bytes at all.
	writesWhole(t, []api.Item{item(3, 1), item(4, 1)})
	writesWhole(t, []api.Item{{Block: 3, Data: string(make([]byte, 256)), Wrapped: string(make([]byte, 48))}})
}

func TestA1ItemsByChance(t *testing.T) {
	r := rand.New(rand.NewSource(1))
	for range 300 {
		writesWhole(t, chanceItems(r))
	}
}

func TestA1ItemsThatAreNotRight(t *testing.T) {
	for k, l := range wrongLists() {
		if areRight(l) {
			t.Fatalf("list %d is right", k)
		}
		if got, errno := archive.RootOf(l); got != "" || errno != api.ErrArchiveItem {
			t.Errorf("RootOf list %d: %x, %d", k, got, errno)
		}
		if got, errno := archive.Whole(l); got != "" || errno != api.ErrArchiveItem {
			t.Errorf("Whole of list %d: %x, %d", k, got, errno)
		}
	}
}

func TestA2Examples(t *testing.T) {
	changes(t, "nothing to nothing", nil, nil, checked("SA\x02"+sum("")+sum("")+"\x00\x00"))
	changes(t, "nothing to nothing", []api.Item{}, nil, laid(2, sum(""), sum(""), nil))
	from := row(1, 2, 3)
	to := []api.Item{item(2, 77), from[2], item(4, 4)}
	want := checked("SA\x02" + wantRoot(from...) + wantRoot(to...) + "\x02\x01" + asBytes(to[0]) + asBytes(to[2]) + "\x01")
	changes(t, "1, 2, 3 to 2, 3, 4", from, to, want)
	if len(want) != 73+2*305+1 {
		t.Errorf("it has %d bytes", len(want))
	}
	isOne(t, "1, 2, 3 to 2, 3, 4", want, api.Archive{From: wantRoot(from...), To: wantRoot(to...), Sets: 2, Clears: 1})
}

func TestA2ListsToThemselves(t *testing.T) {
	for _, l := range lists() {
		want := laid(2, wantRoot(l...), wantRoot(l...), nil)
		changes(t, "a list to itself", l, l, want)
		changes(t, "a list to one that is the same", l, slices.Clone(l), want)
	}
}

func TestA2OneBlockWithOtherBytes(t *testing.T) {
	for _, l := range lists() {
		for k, x := range l {
			y := item(x.Block, 999)
			for what, now := range map[string]api.Item{
				"other Data":             {Block: x.Block, Data: y.Data, Wrapped: x.Wrapped},
				"other Wrapped":          {Block: x.Block, Data: x.Data, Wrapped: y.Wrapped},
				"both":                   y,
				"Data but for a bit":     {Block: x.Block, Data: turned(x.Data, 2047), Wrapped: x.Wrapped},
				"Wrapped but for a bit":  {Block: x.Block, Data: x.Data, Wrapped: turned(x.Wrapped, 0)},
				"Data but for the first": {Block: x.Block, Data: turned(x.Data, 0), Wrapped: x.Wrapped},
			} {
				to := with(l, k, now)
				changes(t, what, l, to, laid(2, wantRoot(l...), wantRoot(to...), []api.Item{now}))
			}
		}
	}
}

func TestA2ListsToOthers(t *testing.T) {
	for _, from := range lists() {
		for _, to := range lists() {
			changes(t, "lists at the edges", from, to, wantChange(from, to))
		}
	}
	full := first(60)
	var all []byte
	for block := range 60 {
		all = append(all, byte(block))
	}
	changes(t, "sixty to nothing", full, nil, laid(2, wantRoot(full...), sum(""), nil, all...))
	changes(t, "nothing to sixty", nil, full, laid(2, sum(""), wantRoot(full...), full))
	var even, odd []api.Item
	for _, x := range full {
		if x.Block%2 == 0 {
			even = append(even, x)
		} else {
			odd = append(odd, x)
		}
	}
	changes(t, "even blocks to odd ones", even, odd, wantChange(even, odd))
	changes(t, "odd blocks to even ones", odd, even, wantChange(odd, even))
	changes(t, "even blocks to all", even, full, laid(2, wantRoot(even...), wantRoot(full...), odd))
}

func TestA2ItemsByChance(t *testing.T) {
	r := rand.New(rand.NewSource(2))
	for range 500 {
		from, to := chanceItems(r), chanceItems(r)
		changes(t, "lists by chance", from, to, wantChange(from, to))
	}
}

func TestA2ItemsThatAreNotRight(t *testing.T) {
	right := [][]api.Item{nil, row(5), first(60)}
	for k, wrong := range wrongLists() {
		for _, c := range [][2][]api.Item{{wrong, right[0]}, {wrong, right[1]}, {wrong, right[2]}, {right[0], wrong}, {right[1], wrong}, {right[2], wrong}, {wrong, wrong}} {
			if got, errno := archive.Change(c[0], c[1]); got != "" || errno != api.ErrArchiveItem {
				t.Errorf("Change with list %d: %x, %d", k, got, errno)
			}
		}
	}
}
