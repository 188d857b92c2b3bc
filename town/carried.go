package town

import (
	"slices"
	"strconv"

	"strongbox/api"
	"strongbox/archive"
)

// maxArchives is how many a NAME has at most: the whole one, and changes behind it.
const maxArchives = 5

// reading reads a volume: its items, or the word why it may not be read.
type reading func() ([]api.Item, string)

// carried is what a NAME is: in the lines that name it, what is done with that, and what is told.
type carried interface {
	// more puts the change behind that leads to what is read. It reads only if nothing else is wrong.
	more(read reading) string
	// split makes shards of it; what it is then.
	split(data, parity int) (carried, string)
	// lose loses a shard of each archive.
	lose(number int) string
	// items are what it leads to, or the word why that is not known.
	items() ([]api.Item, string)
}

// under is what stands under a NAME.
func (t *town) under(name string) carried {
	if c, isThere := t.carried[name]; isThere {
		return c
	}
	return nothing{}
}

// save makes a volume what a NAME is.
func (t *town) save(name string, tenant, volume int) string {
	items, told := t.read(tenant, volume)
	if told != "" {
		return told
	}
	// It is not refused: blocks were read as they rise, and a reply has as much of each as an item.
	whole, _ := archive.Whole(items)
	t.carried[name] = &archives{chain: []string{whole}}
	return "saved " + strconv.Itoa(len(items))
}

// more puts a change behind what a NAME is.
func (t *town) more(name string, tenant, volume int) string {
	return t.under(name).more(func() ([]api.Item, string) { return t.read(tenant, volume) })
}

// split makes shards of what a NAME is.
func (t *town) split(name string, data, parity int) string {
	now, told := t.under(name).split(data, parity)
	t.carried[name] = now
	return told
}

// load brings back what a NAME is.
func (t *town) load(name string, tenant, volume int) string {
	items, told := t.under(name).items()
	if told != "" {
		return told
	}
	return t.bringBack(tenant, volume, items)
}

// nothing is what a NAME is that was never saved.
type nothing struct{}

func (nothing) more(reading) string { return "none" }

func (nothing) split(int, int) (carried, string) { return nothing{}, "none" }

func (nothing) lose(int) string { return "none" }

func (nothing) items() ([]api.Item, string) { return nil, "none" }

// archives are a whole one, and changes behind it.
type archives struct {
	chain []string
}

func (a *archives) more(read reading) string {
	if len(a.chain) == maxArchives {
		return "full"
	}
	to, told := read()
	if told != "" {
		return told
	}
	// Nothing is refused of what was read and written here.
	from, _ := archive.Chain(a.chain)
	change, _ := archive.Change(from, to)
	said, _ := archive.Look(change)
	a.chain = append(a.chain, change)
	return "changed " + strconv.Itoa(said.Sets) + " " + strconv.Itoa(said.Clears)
}

func (a *archives) split(data, parity int) (carried, string) {
	s := &shards{data: data, parity: parity}
	for _, text := range a.chain {
		// It is not refused: a line says numbers that may be, and no archive is too long.
		l, _ := archive.Pack(text, data, parity)
		s.ofEach = append(s.ofEach, l)
	}
	return s, "shards " + strconv.Itoa(data+parity)
}

func (a *archives) lose(int) string { return "none" }

func (a *archives) items() ([]api.Item, string) {
	items, _ := archive.Chain(a.chain)
	return items, ""
}

// shards are archives in shards, of which some may be lost.
type shards struct {
	data, parity int
	ofEach       [][]string // of each archive, by their numbers; one that is lost is empty
}

func (s *shards) more(reading) string { return "split" }

func (s *shards) split(int, int) (carried, string) { return s, "split" }

func (s *shards) lose(number int) string {
	if number >= s.data+s.parity {
		return "none"
	}
	for _, l := range s.ofEach {
		l[number] = ""
	}
	return "ok"
}

func (s *shards) items() ([]api.Item, string) {
	var a archives
	for _, l := range s.ofEach {
		left := slices.DeleteFunc(slices.Clone(l), func(shard string) bool { return shard == "" })
		text, errno := archive.Unpack(left)
		// All of them belong together, so there can only be too few.
		if errno != api.OK {
			return nil, "few"
		}
		a.chain = append(a.chain, text)
	}
	return a.items()
}
