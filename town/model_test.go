package town_test

import (
	"fmt"
	"maps"
	"slices"
	"strconv"
	"strings"
)

// block is what a block is mapped to: a word, sealed once for all, and its key, wrapped by a tenant for that block of a volume.
type block struct {
	word           string
	tenant, volume int
}

// blocks are those of a volume that are mapped.
type blocks map[int]block

// owner is a tenant: its quota, and its volumes by their numbers.
type owner struct {
	quota   int
	volumes map[int]blocks
}

// store is what lasts: the tenants, by their numbers (nil: not there).
type store [9]*owner

// backup is what a NAME is: the states that its archives lead to, one behind the other.
type backup struct {
	states []blocks
	split  bool
	k, m   int
	lost   map[int]bool
}

// shipping is a primary and a replica: all images by their numbers (of 0 none is).
type shipping struct {
	images    []store
	base      int
	notes     []int
	isReplica bool
	has       int
}

// said is a message by its number.
type said struct {
	number int
	word   string
}

// talk is a link: what was sent, what was taken, what is kept.
type talk struct {
	sent  int
	taken map[int]bool
	late  []said
}

// model is a town by the document's words: it knows of no sectors, archives or frames.
type model struct {
	sectors, capacity int
	store             store
	backups           map[string]*backup
	shipping          *shipping
	talks             [9]*talk
}

// roomFor is how many data sectors a disk has: the most for which all that is laid out is not too much.
func roomFor(sectors int) int {
	n := sectors
	for 19+8+(n+255)/256+(n+5)/6+n > sectors {
		n--
	}
	return n
}

func begin(sectors int) *model {
	return &model{sectors: sectors, capacity: roomFor(sectors) - 2, backups: map[string]*backup{}}
}

func (s store) clone() store {
	for k, o := range s {
		if o == nil {
			continue
		}
		s[k] = &owner{quota: o.quota, volumes: map[int]blocks{}}
		for n, v := range o.volumes {
			s[k].volumes[n] = maps.Clone(v)
		}
	}
	return s
}

// pages is how many pages a volume has: its root, and a leaf for each three blocks of which one is mapped.
func (v blocks) pages() int {
	leaves := map[int]int{}
	for n := range v {
		leaves[n/3]++
	}
	return 1 + len(leaves)
}

// charge is what a tenant is charged: mapped blocks, and pages.
func (o *owner) charge() int {
	sum := 0
	for _, v := range o.volumes {
		sum += len(v) + v.pages()
	}
	return sum
}

// words are all that are mapped by anybody.
func (s store) words() map[string]int {
	l := map[string]int{}
	for _, o := range s {
		if o == nil {
			continue
		}
		for _, v := range o.volumes {
			for _, b := range v {
				l[b.word]++
			}
		}
	}
	return l
}

func (s store) promised() int {
	sum := 0
	for _, o := range s {
		if o != nil {
			sum += o.quota
		}
	}
	return sum
}

func (m *model) totals() string {
	pages, mapped, charged := 0, 0, 0
	for _, o := range m.store {
		if o == nil {
			continue
		}
		charged += o.charge()
		for _, v := range o.volumes {
			pages += v.pages()
			mapped += len(v)
		}
	}
	return fmt.Sprintf("chunks %d pages %d mapped %d charged %d promised %d capacity %d", len(m.store.words()), pages, mapped, charged, m.store.promised(), m.capacity)
}

// value is a number of a line.
func value(word string) int {
	n, err := strconv.Atoi(word)
	if err != nil {
		panic("no number: " + word)
	}
	return n
}

// plays does a line that may be; what is told of it.
func (m *model) plays(line string) string {
	words := strings.Fields(line)
	switch words[0] {
	case "disk":
		return fmt.Sprintf("sectors %d data %d", m.sectors, m.capacity+2)
	case "admin":
		return m.adds(value(words[2]), value(words[3]))
	case "audit":
		return "findings 0"
	case "totals":
		return m.totals()
	case "power":
		return "up"
	case "split":
		return m.splits(words[1], value(words[2]), value(words[3]))
	case "lose":
		return m.loses(words[1], value(words[2]))
	case "note":
		return m.notes()
	case "ship":
		return m.ships(words[1])
	case "promote":
		return m.promotes()
	}
	return m.tenants(value(words[0]), words[1:])
}

func (m *model) adds(k, quota int) string {
	switch {
	case m.store[k] != nil:
		return "exists"
	case m.store.promised()+quota > m.capacity:
		return "noroom"
	}
	m.store[k] = &owner{quota: quota, volumes: map[int]blocks{}}
	return "done"
}

// tenants does a line of a tenant's.
func (m *model) tenants(k int, words []string) string {
	switch words[0] {
	case "link":
		m.talks[k] = &talk{taken: map[int]bool{}}
		return "linked"
	case "say":
		return m.says(k, words[1], words[2])
	case "save", "more", "load":
		return m.carries(k, words[0], words[1], value(words[2]))
	}
	o := m.store[k]
	if o == nil {
		return "notenant"
	}
	if words[0] == "stat" {
		return fmt.Sprintf("done quota %d charge %d", o.quota, o.charge())
	}
	n := value(words[1])
	v := o.volumes[n]
	switch {
	case words[0] == "vol":
		return o.adds(n)
	case v == nil:
		return "novolume"
	case words[0] == "unvol" && len(v) > 0:
		return "notempty"
	case words[0] == "unvol":
		delete(o.volumes, n)
		return "done"
	}
	at := value(words[2])
	b, mapped := v[at]
	switch {
	case words[0] == "write":
		return m.writes(k, n, at, words[3])
	case !mapped:
		return "unmapped"
	case words[0] == "trim":
		delete(v, at)
		return "done"
	case b.tenant != k || b.volume != n:
		return "lost"
	}
	return "done " + b.word
}

func (o *owner) adds(n int) string {
	switch {
	case o.volumes[n] != nil:
		return "exists"
	case len(o.volumes) == 8:
		return "toomany"
	case o.charge()+1 > o.quota:
		return "overquota"
	}
	o.volumes[n] = blocks{}
	return "done"
}

// maps maps a block of a volume that is there, if the quota lets it.
func (o *owner) maps(n, at int, b block) bool {
	v := o.volumes[n]
	before, was := v[at]
	v[at] = b
	if o.charge() <= o.quota {
		return true
	}
	delete(v, at)
	if was {
		v[at] = before
	}
	return false
}

func (m *model) writes(k, n, at int, word string) string {
	_, stands := m.store.words()[word]
	switch {
	case !m.store[k].maps(n, at, block{word, k, n}):
		return "overquota"
	case stands:
		return "done proved"
	}
	return "done uploaded"
}

// carries saves a volume, puts a change behind, or brings back what was saved.
func (m *model) carries(k int, what, name string, n int) string {
	x := m.backups[name]
	switch {
	case what != "save" && x == nil:
		return "none"
	case what == "more" && x.split:
		return "split"
	case what == "more" && len(x.states) == 5:
		return "full"
	case what == "load" && x.split && len(x.lost) > x.m:
		return "few"
	case m.store[k] == nil:
		return "notenant"
	case m.store[k].volumes[n] == nil:
		return "novolume"
	case what == "load":
		return m.store[k].loads(n, x.states[len(x.states)-1])
	}
	now := maps.Clone(m.store[k].volumes[n])
	if what == "save" {
		m.backups[name] = &backup{states: []blocks{now}, lost: map[int]bool{}}
		return fmt.Sprintf("saved %d", len(now))
	}
	told := changed(x.states[len(x.states)-1], now)
	x.states = append(x.states, now)
	return told
}

// changed is what is told of a change from some blocks to others.
func changed(from, to blocks) string {
	sets, clears := 0, 0
	for at, b := range to {
		if from[at] != b {
			sets++
		}
	}
	for at := range from {
		if _, stays := to[at]; !stays {
			clears++
		}
	}
	return fmt.Sprintf("changed %d %d", sets, clears)
}

// loads makes a volume what was saved, block by block, as far as the quota lets it.
func (o *owner) loads(n int, saved blocks) string {
	for at := range 60 {
		b, there := saved[at]
		if !there {
			delete(o.volumes[n], at)
		} else if !o.maps(n, at, b) {
			return "overquota"
		}
	}
	return fmt.Sprintf("loaded %d", len(saved))
}

func (m *model) splits(name string, k, n int) string {
	x := m.backups[name]
	switch {
	case x == nil:
		return "none"
	case x.split:
		return "split"
	}
	x.split, x.k, x.m = true, k, n
	return fmt.Sprintf("shards %d", k+n)
}

func (m *model) loses(name string, i int) string {
	x := m.backups[name]
	if x == nil || !x.split || i >= x.k+x.m {
		return "none"
	}
	x.lost[i] = true
	return "ok"
}

func (m *model) notes() string {
	if m.shipping == nil {
		m.shipping = &shipping{images: []store{{}}}
	}
	s := m.shipping
	s.notes = append(s.notes, len(s.images))
	s.images = append(s.images, m.store.clone())
	if len(s.notes) > 8 {
		s.notes = s.notes[8:]
	}
	return "noted"
}

// takes lets a change (from 0: a whole image) come to the replica, and its word to the primary, if that is not lost.
func (s *shipping) takes(from, to int, isLost bool) {
	if s.has < to && (from == 0 || from == s.has) {
		s.has = to
	}
	if isLost || s.has == 0 || s.has < s.base {
		return
	}
	if s.has != s.base && !slices.Contains(s.notes, s.has) {
		s.base, s.notes = 0, s.notes[max(0, len(s.notes)-1):]
		return
	}
	s.base = s.has
	s.notes = slices.DeleteFunc(slices.Clone(s.notes), func(n int) bool { return n <= s.has })
}

func (m *model) ships(digits string) string {
	s := m.shipping
	if s == nil {
		return "nobody"
	}
	s.isReplica = true
	var late [][2]int
	from, all := s.base, s.notes
	for i, to := range all {
		digit := byte('0')
		if i < len(digits) {
			digit = digits[i]
		}
		switch digit {
		case '1', '2', '3':
			s.takes(from, to, digit == '3')
		case '4':
			late = append(late, [2]int{from, to})
		}
		if digit == '2' {
			s.takes(from, to, false)
		}
		from = to
	}
	for _, x := range late {
		s.takes(x[0], x[1], false)
	}
	has := "none"
	if s.has > 0 {
		has = strconv.Itoa(s.has)
	}
	return fmt.Sprintf("replica %s left %d", has, len(s.notes))
}

func (m *model) promotes() string {
	s := m.shipping
	if s == nil || s.has == 0 {
		return "none"
	}
	m.store = s.images[s.has].clone()
	m.shipping = nil
	return fmt.Sprintf("promoted %d", s.has)
}

func (m *model) says(k int, word, signs string) string {
	x := m.talks[k]
	if x == nil {
		return "none"
	}
	now := said{x.sent, word}
	x.sent++
	come := x.late
	x.late = nil
	for _, sign := range signs {
		switch sign {
		case '1':
			come = append(come, now)
		case '2':
			come = append(come, now, now)
		case '4':
			x.late = append(x.late, now)
		}
	}
	var heard []string
	for _, s := range come {
		if !x.taken[s.number] {
			x.taken[s.number] = true
			heard = append(heard, s.word)
		}
	}
	if len(heard) == 0 {
		return "-"
	}
	return strings.Join(heard, ",")
}
