package manifest_test

import (
	"slices"
	"testing"

	"strongbox/api"
)

// trouble is what is wrong at once when a call is asked.
type trouble struct {
	none   bool // no transaction is open
	dead   bool // the disk is, which nobody has noticed
	lost   bool // the pool is
	others int  // how many other sectors the transaction has written
	near   []int
}

// troubles are all of them, with each choice of these sectors at hand.
func troubles(near ...int) []trouble {
	var l []trouble
	for n := range 8 {
		for _, others := range []int{0, 13, 14, 15, 16} {
			for choice := range 1 << len(near) {
				w := trouble{none: n&1 > 0, dead: n&2 > 0, lost: n&4 > 0, others: others}
				for k, i := range near {
					if choice>>k&1 > 0 {
						w.near = append(w.near, i)
					}
				}
				if !w.none || others == 0 {
					l = append(l, w)
				}
			}
		}
	}
	return l
}

// in is a store of so many places on such an image, in such trouble.
func (w trouble) in(t *testing.T, count int, image []string) *parts {
	t.Helper()
	v := opened(t, loaded(t, image), len(w.near), count)
	if !w.none {
		v.begin(t)
		v.write(t, v.nobodys(w.others)...)
	}
	for _, i := range w.near {
		if _, e := v.p.Read(i); e != api.OK {
			t.Fatalf("Read(%d) = %d", i, e)
		}
	}
	switch {
	case w.lost:
		v.lose(t)
	case w.dead:
		v.kill(t)
	}
	return v
}

// isUnread tells whether one of these sectors cannot be read.
func (w trouble) isUnread(sectors []int) bool {
	return w.lost && len(sectors) > 0 || w.dead && slices.ContainsFunc(sectors, func(i int) bool { return !slices.Contains(w.near, i) })
}

// ask is a call, in the order in which it may be refused.
type ask struct {
	name    string
	do      func(v *parts) (int, api.Errno)
	args    api.Errno
	changes bool
	reads   []int     // the sectors by which it is told what is wrong with the volume
	own     api.Errno // what is
	takes   []int     // the map's pages by which a place is taken or given back
	full    api.Errno // ErrManifestFull, if none is free
	writes  []int
	want    int   // what it answers if all goes well
	now     state // and what stands then
}

// errno is the error that is named first of those that apply.
func (a ask) errno(w trouble) api.Errno {
	switch {
	case a.args != api.OK:
		return a.args
	case a.changes && w.none:
		return api.ErrPoolNone
	case w.isUnread(a.reads):
		return api.ErrDead
	case a.own != api.OK:
		return a.own
	case w.isUnread(a.takes):
		return api.ErrDead
	case a.full != api.OK:
		return a.full
	case w.others+len(a.writes) > 16:
		return api.ErrPoolFull
	}
	return api.OK
}

// Each call in each trouble: the error that is named first is told, and nothing is written but where the document says so.
func (a ask) inEachTrouble(t *testing.T, count int, m state, near ...int) {
	t.Helper()
	was, now := m.image(t, count), a.now.image(t, count)
	for _, w := range troubles(near...) {
		v := w.in(t, count, was)
		want := a.errno(w)
		n, e := a.do(v)
		if want == api.OK {
			number(t, a.name, n, e, a.want, want)
		} else if n != 0 || e != want {
			t.Fatalf("%s in %+v = %d, %d, want 0, %d", a.name, w, n, e, want)
		}
		ahead := v.nobodys(w.others)
		if w.none {
			ahead = nil
		}
		switch want {
		case api.OK:
			v.dirty(t, append(ahead, a.writes...)...)
			if !w.lost {
				for _, i := range a.writes {
					v.has(t, i, now[i])
				}
			}
		case api.ErrPoolFull:
			// What has been written so far stays written: that is none but what the call writes.
			for _, i := range v.p.Dirty() {
				if !slices.Contains(append(ahead, a.writes...), i) {
					t.Fatalf("%s in %+v has written %v", a.name, w, v.p.Dirty())
				}
			}
		default:
			v.dirty(t, ahead...)
		}
		v.takenBack(t, w, was)
	}
}

// takenBack aborts, and looks whether all is as it was.
func (v *parts) takenBack(t *testing.T, w trouble, was []string) {
	t.Helper()
	if !w.none {
		v.abort(t)
	}
	v.dirty(t)
	if w.lost || w.dead {
		answers(t, "Crash", v.d.Crash(nil), api.OK)
		opened(t, v.d, 2, v.count)
	} else {
		for i := 19; i < len(was); i++ {
			v.has(t, i, was[i])
		}
	}
	if !slices.Equal(v.d.Image(), was) {
		t.Fatal("what lasts has changed")
	}
}

func create(tenant, volume int) func(*parts) (int, api.Errno) {
	return func(v *parts) (int, api.Errno) { return v.s.Create(tenant, volume) }
}

func destroy(root int) func(*parts) (int, api.Errno) {
	return func(v *parts) (int, api.Errno) { return 0, v.s.Destroy(root) }
}

func set(root, block int, e api.Entry) func(*parts) (int, api.Errno) {
	return func(v *parts) (int, api.Errno) { return v.s.Set(root, block, e) }
}

func drop(root, block int) func(*parts) (int, api.Errno) {
	return func(v *parts) (int, api.Errno) { return v.s.Clear(root, block) }
}

func grows(root, block int) func(*parts) (int, api.Errno) {
	return func(v *parts) (int, api.Errno) { return v.s.Grows(root, block) }
}

// get answers 0 for an entry that is empty, 1 for this one, 2 for all others.
func get(root, block int, want api.Entry) func(*parts) (int, api.Errno) {
	return func(v *parts) (int, api.Errno) {
		switch e, errno := v.s.Get(root, block); e {
		case api.Entry{}:
			return 0, errno
		case want:
			return 1, errno
		default:
			return 2, errno
		}
	}
}

// mapped answers 100 for each page, and 1 for each block; Each must tell as many of these.
func mapped(root int) func(*parts) (int, api.Errno) {
	return func(v *parts) (int, api.Errno) {
		blocks, pages, e := v.s.Mapped(root)
		if l, _ := v.told(root); len(l) != blocks {
			return -1, e
		}
		return 100*pages + blocks, e
	}
}

func TestM2CreateInEachTrouble(t *testing.T) {
	v := empty(t, places)
	near := []int{19, v.sectorAt(7), v.sectorAt(0)}
	m := sample()
	ask{
		name: "Create", do: create(1, 7), changes: true, takes: []int{19}, writes: []int{19, v.sectorAt(7)}, want: 7, now: m.with(bare(7, 1, 7)),
	}.inEachTrouble(t, places, m, near...)
	for _, n := range [][2]int{{0, 0}, {9, 0}, {1, -1}, {1, 100}} {
		ask{name: "Create of none", do: create(n[0], n[1]), args: api.ErrArg}.inEachTrouble(t, places, m, 19)
	}
	m.others = append(from(7, 2), 9, 10, 11)
	ask{
		name: "Create in a full map", do: create(1, 7), changes: true, takes: []int{19}, full: api.ErrManifestFull,
	}.inEachTrouble(t, places, m, near...)
}

func TestM4DestroyInEachTrouble(t *testing.T) {
	v := empty(t, places)
	m := sample()
	ask{
		name: "Destroy", do: destroy(2), changes: true, reads: []int{19, v.sectorAt(2)}, writes: []int{19}, now: m.without(2),
	}.inEachTrouble(t, places, m, 19, v.sectorAt(2))
	ask{
		name: "Destroy of one in use", do: destroy(5), changes: true, reads: []int{19, v.sectorAt(5)}, own: api.ErrManifestUsed,
	}.inEachTrouble(t, places, m, 19, v.sectorAt(5))
}

func TestM5GetInEachTrouble(t *testing.T) {
	v := empty(t, places)
	m := sample()
	root, leaf := v.sectorAt(0), v.sectorAt(3)
	ask{
		name: "Get", do: get(0, 7, entry(107)), reads: []int{19, root, leaf}, want: 1, now: m,
	}.inEachTrouble(t, places, m, 19, root, leaf)
	ask{
		name: "Get of none in its leaf", do: get(0, 8, entry(1)), reads: []int{19, root, leaf}, own: api.ErrManifestNone,
	}.inEachTrouble(t, places, m, 19, root, leaf)
	ask{
		name: "Get of none without a leaf", do: get(0, 9, entry(1)), reads: []int{19, root}, own: api.ErrManifestNone,
	}.inEachTrouble(t, places, m, 19, root, leaf)
	for _, block := range []int{-1, 60} {
		ask{name: "Get of no block", do: get(0, block, entry(1)), args: api.ErrManifestBlock}.inEachTrouble(t, places, m, 19, root)
	}
}

func TestM6SetInEachTrouble(t *testing.T) {
	v := empty(t, places)
	m := sample()
	root, leaf := v.sectorAt(0), v.sectorAt(3)
	for _, block := range []int{6, 7} {
		ask{
			name: "Set in a leaf", do: set(0, block, entry(1)), changes: true, reads: []int{19, root, leaf}, writes: []int{leaf}, now: m.with(m.of(0).set(block, -1, entry(1))),
		}.inEachTrouble(t, places, m, 19, root, leaf)
	}
	ask{
		name: "Set in a new leaf", do: set(0, 30, entry(1)), changes: true, reads: []int{19, root}, writes: []int{19, root, v.sectorAt(7)}, want: 1, now: m.with(m.of(0).set(30, 7, entry(1))),
	}.inEachTrouble(t, places, m, 19, root, v.sectorAt(7))
	for _, block := range []int{-1, 60} {
		ask{name: "Set of no block", do: set(0, block, api.Entry{}), args: api.ErrManifestBlock}.inEachTrouble(t, places, m, 19, root)
	}
	for _, e := range []api.Entry{{}, {Digest: entry(1).Digest}, {Digest: text(1)[:31], Wrapped: text(1)[:48]}, {Digest: text(1)[:32], Wrapped: text(1)[:49]}} {
		ask{name: "Set of no entry", do: set(0, 0, e), args: api.ErrManifestEntry}.inEachTrouble(t, places, m, 19, root)
	}
	m.others = append(from(7, 2), 9, 10, 11)
	ask{
		name: "Set in a full map", do: set(0, 30, entry(1)), changes: true, reads: []int{19, root}, full: api.ErrManifestFull,
	}.inEachTrouble(t, places, m, 19, root)
}

func TestM6ClearInEachTrouble(t *testing.T) {
	v := empty(t, places)
	m := sample()
	root, leaf := v.sectorAt(0), v.sectorAt(3)
	ask{
		name: "Clear of a leaf's last", do: drop(0, 7), changes: true, reads: []int{19, root, leaf}, writes: []int{19, root}, want: 1, now: m.with(m.of(0).clear(7)),
	}.inEachTrouble(t, places, m, 19, root, leaf)
	ask{
		name: "Clear of none in its leaf", do: drop(0, 6), changes: true, reads: []int{19, root, leaf}, own: api.ErrManifestNone,
	}.inEachTrouble(t, places, m, 19, root, leaf)
	ask{
		name: "Clear of none without a leaf", do: drop(0, 30), changes: true, reads: []int{19, root}, own: api.ErrManifestNone,
	}.inEachTrouble(t, places, m, 19, root, leaf)
	leaf = v.sectorAt(6)
	for _, block := range []int{57, 59} {
		ask{
			name: "Clear in a leaf that stays", do: drop(0, block), changes: true, reads: []int{19, root, leaf}, writes: []int{leaf}, now: m.with(m.of(0).clear(block)),
		}.inEachTrouble(t, places, m, 19, root, leaf)
	}
	for _, block := range []int{-1, 60} {
		ask{name: "Clear of no block", do: drop(0, block), args: api.ErrManifestBlock}.inEachTrouble(t, places, m, 19, root)
	}
}

func TestM7TellingInEachTrouble(t *testing.T) {
	v := empty(t, places)
	m := sample()
	root, leaf := v.sectorAt(5), v.sectorAt(4)
	for block, more := range map[int]int{0: 1, 56: 1, 57: 0, 58: 0, 59: 0} {
		ask{name: "Grows", do: grows(5, block), reads: []int{19, root}, want: more, now: m}.inEachTrouble(t, places, m, 19, root, leaf)
	}
	ask{name: "Mapped", do: mapped(5), reads: []int{19, root, leaf}, want: 201, now: m}.inEachTrouble(t, places, m, 19, root, leaf)
	root = v.sectorAt(2)
	ask{name: "Mapped of a bare one", do: mapped(2), reads: []int{19, root}, want: 100, now: m}.inEachTrouble(t, places, m, 19, root, leaf)
	root = v.sectorAt(0)
	all := []int{19, root, v.sectorAt(1), v.sectorAt(3), v.sectorAt(6)}
	ask{name: "Mapped", do: mapped(0), reads: all, want: 406, now: m}.inEachTrouble(t, places, m, all...)
}

// What is asked of a root that is none is refused behind what stands ahead of it, and ahead of all that is asked of volumes.
func TestM3NoRootInEachTrouble(t *testing.T) {
	v := empty(t, places)
	m := sample()
	for _, root := range []int{-1, places, 1, 7, 8} {
		reads := []int{19, v.sectorAt(root)}
		if root < 0 || root == places {
			reads = nil
		}
		for _, a := range []ask{
			{name: "Destroy", do: destroy(root), changes: true},
			{name: "Set", do: set(root, 59, entry(1)), changes: true},
			{name: "Clear", do: drop(root, 59), changes: true},
			{name: "Get", do: get(root, 59, entry(1))},
			{name: "Grows", do: grows(root, 59)},
			{name: "Mapped", do: mapped(root)},
		} {
			a.name += " of no root"
			a.reads, a.own, a.now = reads, api.ErrManifestForm, m
			a.inEachTrouble(t, places, m, append([]int{19}, reads...)...)
		}
	}
}

// The places of a root, of its leaf and of the next one stand on three pages of the map.
func TestM8ThreePagesOfTheMapInEachTrouble(t *testing.T) {
	v := empty(t, 513)
	at := func(place int) int { return v.sectorAt(place) }
	// The root stands at 0, the leaf at 300; free is 512 alone.
	m := state{others: append(from(1, 299), from(301, 211)...)}.with(bare(0, 1, 0).set(4, 300, entry(4)))
	ask{
		name: "Set", do: set(0, 9, entry(1)), changes: true, reads: []int{19, at(0)}, takes: []int{19, 20, 21}, writes: []int{21, at(0), at(512)}, want: 1, now: m.with(m.of(0).set(9, 512, entry(1))),
	}.inEachTrouble(t, 513, m, 19, 20, 21, at(0))
	ask{
		name: "Clear", do: drop(0, 4), changes: true, reads: []int{19, at(0), at(300)}, takes: []int{20}, writes: []int{20, at(0)}, want: 1, now: m.with(bare(0, 1, 0)),
	}.inEachTrouble(t, 513, m, 19, 20, at(0), at(300))
	ask{
		name: "Create", do: create(8, 99), changes: true, takes: []int{19, 20, 21}, writes: []int{21, at(512)}, want: 512, now: m.with(bare(512, 8, 99)),
	}.inEachTrouble(t, 513, m, 19, 20, 21)
}

// Sectors that the transaction has written already need no room, and no disk.
func TestR4SectorsThatWereWrittenAreWrittenAgain(t *testing.T) {
	for _, isDead := range []bool{false, true} {
		w := made(t, 0, places, sample())
		w.begin(t)
		w.sets(t, 2, 30, entry(1), 1)
		w.write(t, w.nobodys(12)...)
		w.creates(t, 1, 1, 9)
		if isDead {
			w.kill(t)
		}
		m := sample().with(bare(2, 1, 0).set(30, 7, entry(1)), bare(9, 1, 1))
		w.sets(t, 2, 31, entry(2), 0)
		w.sets(t, 2, 30, entry(3), 0)
		w.clears(t, 2, 30, 0)
		w.clears(t, 2, 31, 1)
		w.sets(t, 2, 59, entry(4), 1)
		m = m.with(bare(2, 1, 0).set(59, 7, entry(4)))
		w.destroys(t, 9, api.OK)
		w.creates(t, 2, 2, 9)
		m = m.with(bare(9, 2, 2))
		for _, v := range []volume{m.of(2), m.of(9)} {
			w.isVolume(t, v)
		}
		w.dirty(t, append(w.nobodys(12), 19, w.sectorAt(2), w.sectorAt(7), w.sectorAt(9))...)
		// A leaf in another sector has no room.
		w.refusesSet(t, 9, 0, entry(1), api.ErrPoolFull)
		w.abort(t)
		if !isDead {
			w.tells(t, sample())
		}
	}
}

// Fourteen leaves are the most that one transaction takes: the map's page, the root and these.
func TestR4HowManyLeavesATransactionTakes(t *testing.T) {
	for _, isNew := range []bool{false, true} {
		m := state{}.with(bare(0, 1, 0))
		if isNew {
			m = state{}
		}
		w := made(t, 2, 40, m)
		w.begin(t)
		if isNew {
			w.creates(t, 1, 0, 0)
		}
		v := bare(0, 1, 0)
		for l := range 14 {
			w.sets(t, 0, 3*l+2, entry(l), 1)
			v = v.set(3*l+2, l+1, entry(l))
		}
		w.tells(t, state{}.with(v))
		w.sets(t, 0, 0, entry(50), 0)
		w.refusesSet(t, 0, 42, entry(51), api.ErrPoolFull)
		w.abort(t)
		w.tells(t, m)
	}
}
