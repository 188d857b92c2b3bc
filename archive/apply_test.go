package archive_test

import (
	"math/rand"
	"slices"
	"testing"

	"strongbox/api"
	"strongbox/archive"
)

func TestA5Examples(t *testing.T) {
	from := row(1, 2, 3)
	to := []api.Item{item(2, 77), from[2], item(4, 4)}
	applies(t, "1, 2, 3 to 2, 3, 4", from, wantChange(from, to), to, api.OK)
	applies(t, "nothing to nothing", nil, wantChange(nil, nil), nil, api.OK)
	applies(t, "nothing to nothing", []api.Item{}, wantChange(nil, nil), nil, api.OK)
}

func TestA5ListsToOthers(t *testing.T) {
	for _, from := range lists() {
		for _, to := range lists() {
			applies(t, "lists at the edges", from, wantChange(from, to), to, api.OK)
		}
	}
}

// Items that are not right are told first, then what is no archive, then a whole, then another root.
func TestA5WhichErrorIsAnswered(t *testing.T) {
	l, m := row(1, 2, 3), row(4)
	change, other, whole := wantChange(l, m), wantChange(m, l), wantWhole(l...)
	leadsNowhere := laid(2, wantRoot(l...), sum("x"), m)
	none := []string{"", "junk", change + "x", whole[:len(whole)-1], turned(change, 99), laid(2, wantRoot(m...), wantRoot(l...), row(1), 1), laid(1, wantRoot(l...), wantRoot(l...), l)}
	for _, wrong := range wrongLists() {
		for _, s := range append(none, change, other, whole, wantWhole(), leadsNowhere) {
			if got, errno := archive.Apply(wrong, s); len(got) != 0 || errno != api.ErrArchiveItem {
				t.Errorf("Apply to wrong items: %d items, %d", len(got), errno)
			}
		}
	}
	for _, right := range [][]api.Item{nil, l, m, first(60)} {
		for _, s := range none {
			applies(t, "no archive", right, s, nil, api.ErrArchiveForm)
		}
		for _, s := range []string{whole, wantWhole(), wantWhole(m...), wantWhole(first(60)...)} {
			applies(t, "a whole", right, s, nil, api.ErrArchiveKind)
		}
	}
	for _, right := range [][]api.Item{nil, m, first(60), l[:2], l[1:], with(l, 2, item(3, 33))} {
		applies(t, "another From", right, change, nil, api.ErrArchiveBase)
		applies(t, "another From and To", right, leadsNowhere, nil, api.ErrArchiveBase)
	}
	applies(t, "the right From", l, change, m, api.OK)
	applies(t, "another To", l, leadsNowhere, nil, api.ErrArchiveBase)
}

// A change that is laid by hand has the right From, and a To that is not what comes of it.
func TestA5ToThatIsNotReached(t *testing.T) {
	l := row(1, 2, 3)
	from := wantRoot(l...)
	for _, to := range []string{sum(""), from, wantRoot(row(1, 2)...), wantRoot(row(2, 3)...), wantRoot(row(1, 2, 3, 4)...), sum("x")} {
		applies(t, "sets nothing that it tells", l, laid(2, from, to, row(5)), nil, api.ErrArchiveBase)
		applies(t, "clears nothing that it tells", l, laid(2, from, to, nil, 1, 3), nil, api.ErrArchiveBase)
		applies(t, "sets other bytes", l, laid(2, from, to, []api.Item{item(2, 99)}), nil, api.ErrArchiveBase)
	}
	applies(t, "does nothing", l, laid(2, from, wantRoot(row(1, 2)...), nil), nil, api.ErrArchiveBase)
	applies(t, "does nothing, and says so", l, laid(2, from, from, nil), l, api.OK)
	// The root must be of what comes of it, not of what it sets.
	applies(t, "tells the root of what it sets", l, laid(2, from, wantRoot(row(5)...), row(5)), nil, api.ErrArchiveBase)
}

// What a change sets may be there with the same bytes, and what it clears may be not there: what comes of it alone counts.
func TestA5BlocksThatAreThereAndNot(t *testing.T) {
	l := row(1, 2, 3)
	from := wantRoot(l...)
	applies(t, "clears what is not there", l, laid(2, from, from, nil, 0, 4, 59), l, api.OK)
	applies(t, "clears some that are there", l, laid(2, from, wantRoot(row(2)...), nil, 0, 1, 3, 59), row(2), api.OK)
	applies(t, "sets what is there", l, laid(2, from, from, row(2)), l, api.OK)
	applies(t, "sets all that is there", l, laid(2, from, from, l), l, api.OK)
	applies(t, "sets ahead, between and behind", row(1, 3), laid(2, wantRoot(row(1, 3)...), wantRoot(row(0, 1, 2, 3, 4)...), row(0, 2, 4)), row(0, 1, 2, 3, 4), api.OK)
	applies(t, "clears all", l, laid(2, from, sum(""), nil, 1, 2, 3), nil, api.OK)
	applies(t, "sets and clears", l, laid(2, from, wantRoot(row(2, 50)...), row(50), 1, 3, 58), row(2, 50), api.OK)
	applies(t, "clears of nothing", nil, laid(2, sum(""), sum(""), nil, 0, 1, 59), nil, api.OK)
	full := first(60)
	applies(t, "sets all sixty anew", full, laid(2, wantRoot(full...), wantRoot(full...), full), full, api.OK)
}

func TestA5ChangesByChance(t *testing.T) {
	r := rand.New(rand.NewSource(5))
	for range 600 {
		from, to, other := chanceItems(r), chanceItems(r), chanceItems(r)
		s := wantChange(from, to)
		applies(t, "lists by chance", from, s, to, api.OK)
		want, wantErrno := wantApply(other, s)
		applies(t, "to another list", other, s, want, wantErrno)
		text := chanceText(r)
		want, wantErrno = wantApply(from, text)
		applies(t, "a text by chance", from, text, want, wantErrno)
	}
}

// A change laid by chance that sets and clears anything, and whose roots are made right.
func TestA5AnythingSetAndCleared(t *testing.T) {
	r := rand.New(rand.NewSource(6))
	for range 400 {
		from, sets := chanceItems(r), chanceItems(r)
		all, set := seatsOf(from), seatsOf(sets)
		var clears []byte
		for block := range 60 {
			if set[block].Data == "" && r.Intn(4) == 0 {
				clears = append(clears, byte(block))
				all[block] = api.Item{}
			} else if set[block].Data != "" {
				all[block] = set[block]
			}
		}
		want := all.list()
		applies(t, "anything", from, laid(2, wantRoot(from...), wantRoot(want...), sets, clears...), want, api.OK)
	}
}

// states is volumes that change step by step, the archives that lead to them, and a whole ahead.
func states(r *rand.Rand, n int) ([][]api.Item, []string) {
	all := [][]api.Item{chanceItems(r)}
	archives := []string{wantWhole(all[0]...)}
	for k := range n {
		all = append(all, chanceItems(r))
		archives = append(archives, wantChange(all[k], all[k+1]))
	}
	return all, archives
}

func TestA6Chains(t *testing.T) {
	chains(t, "nothing", nil, nil, api.ErrArg)
	chains(t, "nothing", []string{}, nil, api.ErrArg)
	before, behind := row(1, 2, 3), row(2, 3, 4)
	whole, change, end := wantWhole(before...), wantChange(before, behind), wantChange(behind, nil)
	chains(t, "a whole alone", []string{whole}, before, api.OK)
	chains(t, "a whole of nothing", []string{wantWhole()}, nil, api.OK)
	chains(t, "a whole and a change", []string{whole, change}, behind, api.OK)
	chains(t, "up to nothing", []string{whole, change, end}, nil, api.OK)
	chains(t, "up to nothing and on", []string{whole, change, end, wantChange(nil, before), change}, behind, api.OK)
	chains(t, "a change first", []string{change}, nil, api.ErrArchiveKind)
	chains(t, "a change from nothing first", []string{wantChange(nil, before)}, nil, api.ErrArchiveKind)
	chains(t, "a change first, a whole behind", []string{change, whole}, nil, api.ErrArchiveKind)
	chains(t, "a whole behind", []string{whole, whole}, nil, api.ErrArchiveKind)
	chains(t, "a whole behind a change", []string{whole, change, whole}, nil, api.ErrArchiveKind)
	chains(t, "a whole of nothing behind", []string{whole, change, end, wantWhole()}, nil, api.ErrArchiveKind)
	chains(t, "a link left out", []string{whole, end}, nil, api.ErrArchiveBase)
	chains(t, "a link doubled", []string{whole, change, change}, nil, api.ErrArchiveBase)
	chains(t, "out of order", []string{whole, end, change}, nil, api.ErrArchiveBase)
	chains(t, "no archive first", []string{"junk"}, nil, api.ErrArchiveForm)
	chains(t, "empty texts", []string{"", ""}, nil, api.ErrArchiveForm)
	chains(t, "no archive behind", []string{whole, change, "junk"}, nil, api.ErrArchiveForm)
	chains(t, "another whole ahead", []string{wantWhole(behind...), change}, nil, api.ErrArchiveBase)
}

func TestA6TheFirstErrorIsAnswered(t *testing.T) {
	before, behind := row(1, 2, 3), row(2, 3, 4)
	whole, change, end := wantWhole(before...), wantChange(before, behind), wantChange(behind, nil)
	wrong := map[api.Errno]string{api.ErrArchiveForm: "junk", api.ErrArchiveKind: whole, api.ErrArchiveBase: end}
	for first, s := range wrong {
		for _, other := range wrong {
			chains(t, "two wrong ones", []string{whole, s, other}, nil, first)
			chains(t, "two wrong ones behind a right one", []string{whole, change, change, other, s}, nil, api.ErrArchiveBase)
			chains(t, "a wrong one, right ones, another", []string{whole, s, change, end, other}, nil, first)
			chains(t, "no archive ahead of all", []string{"junk", s, other}, nil, api.ErrArchiveForm)
			chains(t, "a change ahead of all", []string{change, s, other}, nil, api.ErrArchiveKind)
		}
	}
}

// Where roots are the same, links may be left out, doubled and swapped.
func TestA6RootsThatAreTheSame(t *testing.T) {
	one, two := row(1, 2, 3), row(2, 3, 4)
	whole, there, back, stay := wantWhole(one...), wantChange(one, two), wantChange(two, one), wantChange(one, one)
	chains(t, "there and back", []string{whole, there, back}, one, api.OK)
	chains(t, "there and back and there", []string{whole, there, back, there}, two, api.OK)
	chains(t, "two links left out", []string{whole, there}, two, api.OK)
	chains(t, "a link that leads to itself, doubled", []string{whole, stay, stay, stay, there}, two, api.OK)
	chains(t, "a link that leads to itself, where it does not lead from", []string{whole, there, stay}, nil, api.ErrArchiveBase)
	chains(t, "nothing to nothing", []string{wantWhole(), wantChange(nil, nil), wantChange(nil, nil)}, nil, api.OK)
}

func TestA6ChainsByChance(t *testing.T) {
	r := rand.New(rand.NewSource(7))
	for range 60 {
		all, archives := states(r, 8)
		for n := range archives {
			chains(t, "a chain by chance", archives[:n+1], all[n], api.OK)
		}
		mixed := slices.Clone(archives)
		r.Shuffle(len(mixed), func(i, j int) { mixed[i], mixed[j] = mixed[j], mixed[i] })
		want, wantErrno := wantChain(mixed)
		chains(t, "a chain that was mixed", mixed, want, wantErrno)
		for range 10 {
			some := archives[:1:1]
			for range r.Intn(6) {
				some = append(some, archives[r.Intn(len(archives))])
			}
			want, wantErrno := wantChain(some)
			chains(t, "some links", some, want, wantErrno)
		}
	}
}
