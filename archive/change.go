package archive

import (
	"slices"

	"strongbox/api"
	"strongbox/merkle"
)

// wholeOf is the whole that sets items, which must be right.
func wholeOf(l []api.Item) archive {
	a := archive{kind: kindWhole, from: merkle.Root(nil), to: rootOf(slices.Values(l))}
	for _, x := range l {
		a.sets += bytesOf(x)
	}
	return a
}

// changeOf is the change that leads from items to others, which must be right.
func changeOf(from, to []api.Item) archive {
	a := archive{kind: kindChange, from: rootOf(slices.Values(from)), to: rootOf(slices.Values(to))}
	for old, now := range both(from, to) {
		if now == (api.Item{}) {
			a.clears += string([]byte{byte(old.Block)})
		} else if now != old {
			a.sets += bytesOf(now)
		}
	}
	return a
}

// read is the items of a whole.
func read(s string) ([]api.Item, error) {
	a, err := parse(s)
	if err != nil {
		return nil, err
	}
	if a.kind != kindWhole {
		return nil, fault(api.ErrArchiveKind)
	}
	return slices.Collect(a.items()), nil
}

// apply is what comes of items by a change that leads from them.
func apply(l []api.Item, s string) ([]api.Item, error) {
	if err := checkItems(l); err != nil {
		return nil, err
	}
	a, err := parse(s)
	if err != nil {
		return nil, err
	}
	if a.kind != kindChange {
		return nil, fault(api.ErrArchiveKind)
	}
	if rootOf(slices.Values(l)) != a.from {
		return nil, fault(api.ErrArchiveBase)
	}
	made := a.laidOn(l)
	if rootOf(slices.Values(made)) != a.to {
		return nil, fault(api.ErrArchiveBase)
	}
	return made, nil
}

// laidOn is right items without those that an archive clears, and with those that it sets.
func (a archive) laidOn(l []api.Item) []api.Item {
	var made []api.Item
	for old, set := range both(l, slices.Collect(a.items())) {
		if set != (api.Item{}) {
			made = append(made, set)
		} else if !a.isCleared(old.Block) {
			made = append(made, old)
		}
	}
	return made
}

// chain is what a whole and the changes behind it lead to.
func chain(l []string) ([]api.Item, error) {
	if len(l) == 0 {
		return nil, fault(api.ErrArg)
	}
	made, err := read(l[0])
	for _, s := range l[1:] {
		if err != nil {
			return nil, err
		}
		made, err = apply(made, s)
	}
	return made, err
}
