package quorum_test

import (
	"encoding/binary"
	"fmt"
	"hash/crc32"
	"math"
	"slices"
	"strings"
	"testing"

	"strongbox/api"
	"strongbox/quorum"
)

// What the chapter's words make of frames, of what is saved and of nodes, reckoned by other means than the package's: checks by Go's library, texts laid together by hand, and a node that keeps lists alone: all entries that it was told, in their order, and who has promised or accepted.

// num is a number by so many bytes, the highest first.
func num(n, size int) string {
	return string(binary.BigEndian.AppendUint64(nil, uint64(n))[8-size:])
}

// checked is a text and its check, the lowest byte first.
func checked(s string) string {
	return s + string(binary.LittleEndian.AppendUint32(nil, crc32.ChecksumIEEE([]byte(s))))
}

// again is a text whose last four bytes are the check of the others.
func again(s string) string { return checked(s[:len(s)-4]) }

// valued is a value as bytes.
func valued(s string) string { return num(len(s), 2) + s }

// entry is one as it is told: a place, a ballot, a value.
type entry struct {
	place, ballot int
	value         string
}

// kept is a value that is held at a place.
type kept struct {
	place int
	value string
}

func entriesText(l []entry) string {
	out := num(len(l), 2)
	for _, e := range l {
		out += num(e.place, 2) + num(e.ballot, 4) + valued(e.value)
	}
	return out
}

func keptText(l []kept) string {
	out := num(len(l), 2)
	for _, h := range l {
		out += num(h.place, 2) + valued(h.value)
	}
	return out
}

// frame is one of any kind, of any fields, with its check.
func frame(kind, from, to int, fields string) string {
	return checked("QM" + num(kind, 1) + num(from, 1) + num(to, 1) + fields)
}

func prepare(from, to, ballot int) string { return frame(1, from, to, num(ballot, 4)) }

func promise(from, to, ballot int, l ...entry) string {
	return frame(2, from, to, num(ballot, 4)+entriesText(l))
}

func accept(from, to, ballot, place int, value string) string {
	return frame(3, from, to, num(ballot, 4)+num(place, 2)+valued(value))
}

func accepted(from, to, ballot, place int) string {
	return frame(4, from, to, num(ballot, 4)+num(place, 2))
}

func holds(from, to, place int, value string) string {
	return frame(5, from, to, num(place, 2)+valued(value))
}

func refuse(from, to, ballot int) string { return frame(6, from, to, num(ballot, 4)) }

func ask(from, to, place int) string { return frame(7, from, to, num(place, 2)) }

// saved is what a node saves that has promised a ballot, or -1.
func saved(id, n, promised int, entries []entry, held []kept) string {
	return checked("QS" + num(id, 1) + num(n, 1) + num(promised+1, 4) + entriesText(entries) + keptText(held))
}

// parts is a frame, taken apart: what its kind has not is 0 or empty.
type parts struct {
	kind, from, to, ballot, place int
	value                         string
	entries                       []entry
}

// cursor takes numbers and values off a text, until there are too few bytes.
type cursor struct {
	rest  string
	short bool
}

func (c *cursor) raw(n int) string {
	if c.short || len(c.rest) < n {
		c.short = true
		return ""
	}
	s := c.rest[:n]
	c.rest = c.rest[n:]
	return s
}

func (c *cursor) num(size int) int {
	n := 0
	for _, b := range []byte(c.raw(size)) {
		n = n<<8 | int(b)
	}
	return n
}

func (c *cursor) value() string { return c.raw(c.num(2)) }

// readParts takes a frame apart, if it is one.
func readParts(s string) (parts, bool) {
	if len(s) < 9 || again(s) != s || s[:2] != "QM" {
		return parts{}, false
	}
	c := &cursor{rest: s[2 : len(s)-4]}
	p := parts{kind: c.num(1), from: c.num(1), to: c.num(1)}
	switch p.kind {
	case 1, 6:
		p.ballot = c.num(4)
	case 2:
		p.ballot = c.num(4)
		for range c.num(2) {
			p.entries = append(p.entries, entry{c.num(2), c.num(4), c.value()})
		}
	case 3:
		p.ballot, p.place, p.value = c.num(4), c.num(2), c.value()
	case 4:
		p.ballot, p.place = c.num(4), c.num(2)
	case 5:
		p.place, p.value = c.num(2), c.value()
	case 7:
		p.place = c.num(2)
	default:
		return parts{}, false
	}
	return p, !c.short && c.rest == "" && p.mayBe()
}

// mayBe tells whether the numbers and values are such as the table has them.
func (p parts) mayBe() bool {
	if p.from > 4 || p.to > 4 || p.from == p.to || p.ballot > 65535 || len(p.value) > 400 {
		return false
	}
	if p.place > 64 || p.place == 64 && p.kind != 7 {
		return false
	}
	owner := map[int]int{1: p.from, 2: p.to, 3: p.from, 4: p.to}
	if id, isOwned := owner[p.kind]; isOwned && p.ballot%5 != id {
		return false
	}
	last := -1
	for _, e := range p.entries {
		if e.place <= last || e.place > 63 || e.ballot > 65535 || len(e.value) > 400 {
			return false
		}
		last = e.place
	}
	return true
}

// show is what a frame says, shortly.
func show(s string) string {
	p, isOne := readParts(s)
	if !isOne {
		return fmt.Sprintf("no frame, %d bytes, %.40x", len(s), s)
	}
	kinds := []string{"", "PREPARE", "PROMISE", "ACCEPT", "ACCEPTED", "HOLDS", "REFUSE", "ASK"}
	return fmt.Sprintf("%s %d>%d ballot %d place %d value %.9q entries %.60v", kinds[p.kind], p.from, p.to, p.ballot, p.place, p.value, p.entries)
}

func shown(l []string) string {
	var out []string
	for _, s := range l {
		out = append(out, show(s))
	}
	return "[" + strings.Join(out, "; ") + "]"
}

// proposal is what was proposed at a place, and who has accepted it.
type proposal struct {
	entry
	by []int
}

// What a node does.
const (
	idle = iota
	asking
	leading
)

// model is a node by the chapter's words.
type model struct {
	id, n, promised, seen int // -1: none
	entries               []entry
	held                  []kept
	does                  int
	ballot                int     // with which it asks or leads
	by                    []int   // who has promised
	told                  []entry // all entries, as they were told
	proposals             []proposal
	next                  int
}

func (m *model) others() []int {
	var l []int
	for id := range m.n {
		if id != m.id {
			l = append(l, id)
		}
	}
	return l
}

func (m *model) value(place int) (string, bool) {
	for _, h := range m.held {
		if h.place == place {
			return h.value, true
		}
	}
	return "", false
}

func (m *model) row() []string {
	var l []string
	for {
		v, isHeld := m.value(len(l))
		if !isHeld {
			return l
		}
		l = append(l, v)
	}
}

func (m *model) hold(place int, value string) {
	if _, isHeld := m.value(place); !isHeld {
		m.held = append(m.held, kept{place, value})
		slices.SortFunc(m.held, func(a, b kept) int { return a.place - b.place })
	}
}

func (m *model) enter(e entry) {
	m.entries = slices.DeleteFunc(m.entries, func(x entry) bool { return x.place == e.place })
	m.entries = append(m.entries, e)
	slices.SortFunc(m.entries, func(a, b entry) int { return a.place - b.place })
}

func (m *model) saved() string { return saved(m.id, m.n, m.promised, m.entries, m.held) }

func (m *model) start() ([]string, api.Errno) {
	b := m.seen + 1
	for b%5 != m.id {
		b++
	}
	if b > 65535 {
		return nil, api.ErrQuorumRound
	}
	m.promised, m.seen, m.ballot, m.does = b, b, b, asking
	m.by, m.told = []int{m.id}, slices.Clone(m.entries)
	var l []string
	for _, id := range m.others() {
		l = append(l, prepare(m.id, id, b))
	}
	return append(l, m.mayLead()...), api.OK
}

func (m *model) mayLead() []string {
	if 2*len(m.by) <= m.n {
		return nil
	}
	m.does, m.proposals = leading, nil
	last := -1
	for _, e := range m.told {
		last = max(last, e.place)
	}
	for _, h := range m.held {
		last = max(last, h.place)
	}
	m.next = last + 1
	var l []string
	for place := 0; place <= last; place++ {
		if _, isHeld := m.value(place); isHeld {
			continue
		}
		best := entry{ballot: -1}
		for _, e := range m.told {
			if e.place == place && e.ballot > best.ballot {
				best = e
			}
		}
		l = append(l, m.propose(place, best.value)...)
	}
	return l
}

func (m *model) propose(place int, value string) []string {
	e := entry{place, m.ballot, value}
	m.enter(e)
	m.proposals = append(m.proposals, proposal{e, []int{m.id}})
	if m.n == 1 {
		m.hold(place, value)
	}
	var l []string
	for _, id := range m.others() {
		l = append(l, accept(m.id, id, m.ballot, place, value))
	}
	return l
}

func (m *model) offer(value string) (int, []string, api.Errno) {
	switch {
	case len(value) > 400:
		return 0, nil, api.ErrQuorumLong
	case m.does != leading:
		return 0, nil, api.ErrQuorumLead
	case m.next == 64:
		return 0, nil, api.ErrQuorumFull
	}
	m.next++
	return m.next - 1, m.propose(m.next-1, value), api.OK
}

func (m *model) take(s string) ([]string, api.Errno) {
	p, isFrame := readParts(s)
	if !isFrame || p.to != m.id || p.from >= m.n {
		return nil, api.ErrQuorumFrame
	}
	switch p.kind {
	case 1, 3:
		return m.takeBallot(p), api.OK
	case 2:
		if m.does == asking && m.ballot == p.ballot && !slices.Contains(m.by, p.from) {
			m.by, m.told = append(m.by, p.from), append(m.told, p.entries...)
			return m.mayLead(), api.OK
		}
	case 4:
		return m.takeAccepted(p), api.OK
	case 5:
		m.hold(p.place, p.value)
	case 6:
		m.seen = max(m.seen, p.ballot)
		if m.does != idle && m.ballot < p.ballot {
			m.does = idle
		}
	case 7:
		var l []string
		for _, h := range m.held {
			if h.place >= p.place {
				l = append(l, holds(m.id, p.from, h.place, h.value))
			}
		}
		return l, api.OK
	}
	return nil, api.OK
}

func (m *model) takeBallot(p parts) []string {
	if m.promised > p.ballot {
		return []string{refuse(m.id, p.from, m.promised)}
	}
	m.promised, m.seen, m.does = p.ballot, max(m.seen, p.ballot), idle
	if p.kind == 1 {
		return []string{promise(m.id, p.from, p.ballot, m.entries...)}
	}
	m.enter(entry{p.place, p.ballot, p.value})
	return []string{accepted(m.id, p.from, p.ballot, p.place)}
}

func (m *model) takeAccepted(p parts) []string {
	if m.does != leading || m.ballot != p.ballot {
		return nil
	}
	for k, x := range m.proposals {
		if x.place != p.place || slices.Contains(x.by, p.from) {
			continue
		}
		m.proposals[k].by = append(x.by, p.from)
		if _, isHeld := m.value(x.place); isHeld || 2*(len(x.by)+1) <= m.n {
			return nil
		}
		m.hold(x.place, x.value)
		var l []string
		for _, id := range m.others() {
			l = append(l, holds(m.id, id, x.place, x.value))
		}
		return l
	}
	return nil
}

func (m *model) again() []string {
	var l []string
	if m.does == asking {
		for _, id := range m.others() {
			if !slices.Contains(m.by, id) {
				l = append(l, prepare(m.id, id, m.ballot))
			}
		}
	}
	if m.does != leading {
		return l
	}
	for _, x := range m.proposals { // which were made by rising places
		for _, id := range m.others() {
			if _, isHeld := m.value(x.place); !isHeld && !slices.Contains(x.by, id) {
				l = append(l, accept(m.id, id, m.ballot, x.place, x.value))
			}
		}
	}
	return l
}

func (m *model) asks() []string {
	var l []string
	for _, id := range m.others() {
		l = append(l, ask(m.id, id, len(m.row())))
	}
	return l
}

// tried is a node that is held against its model at each call, and behind it by all that it tells of itself.
type tried struct {
	t     *testing.T
	is    *quorum.Node
	model *model
}

func tryNode(t *testing.T, id, n int) *tried {
	t.Helper()
	is, errno := quorum.New(id, n)
	if is == nil || errno != api.OK {
		t.Fatalf("New(%d, %d) = %v, %d", id, n, is, errno)
	}
	x := &tried{t, is, &model{id: id, n: n, promised: -1, seen: -1}}
	x.stands("New")
	return x
}

// tryLoad is the node of a memory, loaded.
func tryLoad(t *testing.T, id, n, promised int, entries []entry, held []kept) *tried {
	t.Helper()
	s := saved(id, n, promised, entries, held)
	is, errno := quorum.Load(id, n, s)
	if is == nil || errno != api.OK {
		t.Fatalf("Load(%d, %d, %x) = %v, %d", id, n, s, is, errno)
	}
	x := &tried{t, is, &model{id: id, n: n, promised: promised, seen: promised, entries: slices.Clone(entries), held: slices.Clone(held)}}
	x.stands("Load")
	return x
}

// stands holds all that a node tells of itself against its model, twice: for these calls change nothing.
func (x *tried) stands(behind string) {
	x.t.Helper()
	for range 2 {
		x.tells(behind)
	}
}

func (x *tried) tells(behind string) {
	x.t.Helper()
	if got, want := x.is.Leads(), x.model.does == leading; got != want {
		x.t.Fatalf("behind %s: Leads = %v", behind, got)
	}
	if got, want := x.is.Again(), x.model.again(); !slices.Equal(got, want) {
		x.t.Fatalf("behind %s: Again = %s, want %s", behind, shown(got), shown(want))
	}
	if got, want := x.is.Ask(), x.model.asks(); !slices.Equal(got, want) {
		x.t.Fatalf("behind %s: Ask = %s, want %s", behind, shown(got), shown(want))
	}
	if got, want := x.is.Row(), x.model.row(); !slices.Equal(got, want) {
		x.t.Fatalf("behind %s: Row = %q, want %q", behind, got, want)
	}
	for place := -2; place < 67; place++ {
		x.tellsValue(behind, place)
	}
	for _, place := range []int{math.MinInt, -1 << 32, 256, 1 << 32, math.MaxInt} {
		x.tellsValue(behind, place)
	}
	if got, want := x.is.Saved(), x.model.saved(); got != want {
		x.t.Fatalf("behind %s: Saved = %q, want %q", behind, got, want)
	}
}

func (x *tried) tellsValue(behind string, place int) {
	x.t.Helper()
	got, isHeld := x.is.Value(place)
	want, wanted := x.model.value(place)
	if got != want || isHeld != wanted {
		x.t.Fatalf("behind %s: Value(%d) = %q, %v, want %q, %v", behind, place, got, isHeld, want, wanted)
	}
}

// start, offer and take hold a call against the model.
func (x *tried) start() ([]string, api.Errno) {
	x.t.Helper()
	got, errno := x.is.Start()
	want, wanted := x.model.start()
	if !slices.Equal(got, want) || errno != wanted {
		x.t.Fatalf("Start = %s, %d, want %s, %d", shown(got), errno, shown(want), wanted)
	}
	x.stands("Start")
	return got, errno
}

func (x *tried) offer(value string) (int, []string, api.Errno) {
	x.t.Helper()
	at, got, errno := x.is.Offer(value)
	place, want, wanted := x.model.offer(value)
	if at != place || !slices.Equal(got, want) || errno != wanted {
		x.t.Fatalf("Offer of %d bytes = %d, %s, %d, want %d, %s, %d", len(value), at, shown(got), errno, place, shown(want), wanted)
	}
	x.stands("Offer")
	return at, got, errno
}

func (x *tried) take(s string) ([]string, api.Errno) {
	x.t.Helper()
	got, errno := x.is.Take(s)
	want, wanted := x.model.take(s)
	if !slices.Equal(got, want) || errno != wanted {
		x.t.Fatalf("Take of %s = %s, %d, want %s, %d", show(s), shown(got), errno, shown(want), wanted)
	}
	x.stands("Take of " + show(s))
	return got, errno
}

// starts, offers, takes, refuses and ends are calls whose outcome the test says itself.
func (x *tried) starts(want ...string) {
	x.t.Helper()
	if got, errno := x.start(); !slices.Equal(got, want) || errno != api.OK {
		x.t.Fatalf("Start = %s, %d, want %s", shown(got), errno, shown(want))
	}
}

func (x *tried) offers(value string, place int, want ...string) {
	x.t.Helper()
	if at, got, errno := x.offer(value); at != place || !slices.Equal(got, want) || errno != api.OK {
		x.t.Fatalf("Offer of %d bytes = %d, %s, %d, want %d, %s", len(value), at, shown(got), errno, place, shown(want))
	}
}

func (x *tried) takes(s string, want ...string) {
	x.t.Helper()
	if got, errno := x.take(s); !slices.Equal(got, want) || errno != api.OK {
		x.t.Fatalf("Take of %s = %s, %d, want %s", show(s), shown(got), errno, shown(want))
	}
}

func (x *tried) refuses(s string) {
	x.t.Helper()
	if got, errno := x.take(s); len(got) != 0 || errno != api.ErrQuorumFrame {
		x.t.Fatalf("Take of %s = %s, %d, want ErrQuorumFrame", show(s), shown(got), errno)
	}
}

func (x *tried) doesNotOffer(value string, want api.Errno) {
	x.t.Helper()
	if at, got, errno := x.offer(value); at != 0 || len(got) != 0 || errno != want {
		x.t.Fatalf("Offer of %d bytes = %d, %s, %d, want error %d", len(value), at, shown(got), errno, want)
	}
}

func (x *tried) doesNotStart() {
	x.t.Helper()
	if got, errno := x.start(); len(got) != 0 || errno != api.ErrQuorumRound {
		x.t.Fatalf("Start = %s, %d, want ErrQuorumRound", shown(got), errno)
	}
}

// doing holds what a node does to what the test says.
func (x *tried) doing(want int) {
	x.t.Helper()
	does := idle
	switch {
	case x.is.Leads():
		does = leading
	case len(x.is.Again()) > 0: // of one that asks somebody has not promised yet
		does = asking
	}
	if does != want {
		x.t.Fatalf("it does %d, want %d", does, want)
	}
}

// others is the numbers of the other nodes of n.
func others(id, n int) []int { return (&model{id: id, n: n}).others() }

// toOthers is what a function makes of each other node of n.
func toOthers(id, n int, f func(to int) string) []string {
	var l []string
	for _, to := range others(id, n) {
		l = append(l, f(to))
	}
	return l
}

// asks is a node that asks with its first ballot; leads is one that leads with it, by promises without entries.
func asks(t *testing.T, id, n int) *tried {
	t.Helper()
	x := tryNode(t, id, n)
	x.starts(toOthers(id, n, func(to int) string { return prepare(id, to, id) })...)
	return x
}

func leads(t *testing.T, id, n int) *tried {
	t.Helper()
	x := asks(t, id, n)
	for _, from := range others(id, n)[:n/2] {
		x.takes(promise(from, id, id))
	}
	x.doing(leading)
	return x
}

// turned is a text with one bit turned.
func turned(s string, at, bit int) string {
	b := []byte(s)
	b[at] ^= 1 << bit
	return string(b)
}
