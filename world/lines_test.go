package world_test

import (
	"encoding/hex"
	"fmt"
	"regexp"
	"strconv"
	"strings"
	"testing"

	"strongbox/api"
	"strongbox/world"
)

var statusWords = strings.Fields("done challenge need badframe notallowed notenant exists noroom notempty novolume toomany outofrange overquota unmapped")

var wordForm = regexp.MustCompile(`^[a-z0-9]{1,32}$`)

// begin is the model of a world behind its first line.
func begin(sectors int) *model {
	m := &model{sectors: sectors, capacity: roomFor(sectors) - 2}
	for k := range m.domains {
		m.domains[k] = "d"
	}
	return m
}

// plays does a line that may be, behind the first one; what is told of it.
func (m *model) plays(line string) string {
	m.died = 0
	told := m.does(strings.Fields(line))
	if m.died > 0 {
		return fmt.Sprintf("died %d", m.died)
	}
	return told
}

// value is a number of a line.
func value(word string) int {
	n, err := strconv.Atoi(word)
	if err != nil {
		panic("no number: " + word)
	}
	return n
}

func (m *model) does(words []string) string {
	switch words[0] {
	case "admin":
		return m.asks(0, words[1:])
	case "domain":
		m.domains[value(words[1])] = words[2]
		return "ok"
	case "arm":
		m.row = append(m.row, doom{value(words[1]), words[2]})
		if len(m.row) == 1 {
			m.arm()
		}
		return "ok"
	case "power":
		m.arm()
		m.reopen()
		return "up"
	case "audit":
		return "findings 0"
	case "totals":
		return m.totals()
	case "acts":
		n := m.acts
		m.acts = 0
		return fmt.Sprintf("acts %d", n)
	}
	return m.tenants(value(words[0]), words[1:])
}

// asks does a line that is one request without a place.
func (m *model) asks(asker int, words []string) string {
	r := api.Request{Kind: map[string]int{"add": 1, "remove": 2, "look": 3, "vol": 4, "unvol": 5, "vols": 6, "stat": 7}[words[0]]}
	switch {
	case asker == 0:
		r.Tenant = value(words[1])
	case len(words) > 1:
		r.Volume = value(words[1])
	}
	if words[0] == "add" {
		r.Quota = value(words[2])
	}
	reply := m.handle(asker, r)
	told := statusWords[reply.Status]
	if reply.Status != api.Done {
		return told
	}
	switch words[0] {
	case "look":
		told += fmt.Sprintf(" quota %d charge %d volumes %s", reply.Quota, reply.Charge, list(reply.Volumes))
	case "vols":
		told += " " + list(reply.Volumes)
	case "stat":
		told += fmt.Sprintf(" quota %d charge %d", reply.Quota, reply.Charge)
	}
	return told
}

// tenants does a line of a tenant's.
func (m *model) tenants(k int, words []string) string {
	switch words[0] {
	case "write":
		return m.write(k, value(words[1]), value(words[2]), words[3])
	case "read":
		return m.read(k, value(words[1]), value(words[2]))
	case "trim":
		return statusWords[m.handle(k, api.Request{Kind: 12, Volume: value(words[1]), Block: value(words[2])}).Status]
	case "raw":
		frame, _ := hex.DecodeString(words[1])
		r, isRequest := requestOf(string(frame))
		if !isRequest {
			m.frames++
			return rawReply(0, bare(api.BadFrame))
		}
		return rawReply(r.Kind, m.handle(k, r))
	}
	return m.asks(k, words)
}

func (m *model) write(k, volume, at int, word string) string {
	offer := offerOf(k, volume, at, m.domains[k], blockOf(word))
	data, _ := sealed(domainOf(m.domains[k]), blockOf(word))
	reply := m.handle(k, offer)
	if reply.Status != api.Challenge {
		return statusWords[reply.Status]
	}
	reply = m.handle(k, api.Request{Kind: 9, Nonce: reply.Nonce, Sample: sampleOf(data, reply.Places)})
	switch reply.Status {
	case api.Done:
		return "done proved"
	case api.Need:
		// A challenge that was made in this line is pending, and nothing is over quota now that was not when it was made.
		m.handle(k, api.Request{Kind: 10, Volume: volume, Block: at, Wrapped: offer.Wrapped, Data: data})
		return "done uploaded"
	}
	return "?"
}

func (m *model) read(k, volume, at int) string {
	reply := m.handle(k, api.Request{Kind: 11, Volume: volume, Block: at})
	if reply.Status != api.Done {
		return statusWords[reply.Status]
	}
	plain, isOpen := opened(domainOf(m.domains[k]), masterOf(k), volume, at, block{reply.Data, reply.Wrapped})
	word := strings.TrimRight(plain, "\x00")
	switch {
	case !isOpen:
		return "lost"
	case !wordForm.MatchString(word):
		return "done ?"
	}
	return "done " + word
}

// modelled is what must come of a script, line by line.
func modelled(lines []string) []string {
	m := begin(value(strings.TrimPrefix(lines[0], "disk ")))
	told := []string{fmt.Sprintf("sectors %d data %d", m.sectors, m.capacity+2)}
	for _, line := range lines[1:] {
		told = append(told, m.plays(line))
	}
	return told
}

// scriptOf is lines as a script.
func scriptOf(lines []string) string { return strings.Join(lines, "\n") + "\n" }

// short is a line as a test tells of it.
func short(line string) string {
	if len(line) > 80 {
		return line[:80] + ".."
	}
	return line
}

// tells plays lines, of which these must be told.
func tells(t *testing.T, lines, want []string) {
	t.Helper()
	s, e, at := world.Run(scriptOf(lines))
	if e != api.OK || at != 0 {
		t.Fatalf("Run: %d, line %d of\n%s", e, at, scriptOf(lines))
	}
	got := strings.Split(s, "\n")
	for i, w := range want {
		if i >= len(got) || got[i] != w {
			t.Fatalf("line %d, %s: %s, want %s, in\n%s", i+1, short(lines[i]), short(got[min(i, len(got)-1)]), short(w), scriptOf(lines))
		}
	}
	if s != scriptOf(want) {
		t.Fatalf("more is told: %q", s)
	}
}

// agrees plays lines, of which that must be told which the model says.
func agrees(t *testing.T, lines []string) []string {
	t.Helper()
	want := modelled(lines)
	tells(t, lines, want)
	return want
}

// plays plays a script whose lines stand beside what must come of them, and which the model must say too.
func plays(t *testing.T, both string) {
	t.Helper()
	var lines, want []string
	for _, l := range strings.Split(strings.TrimSpace(both), "\n") {
		a, b, _ := strings.Cut(l, "|")
		lines, want = append(lines, strings.TrimSpace(a)), append(want, strings.TrimSpace(b))
	}
	tells(t, lines, want)
	agrees(t, lines)
}
