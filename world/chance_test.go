package world_test

import (
	"fmt"
	"math/rand"
	"strings"
	"testing"

	"strongbox/api"
	"strongbox/world"
)

// writer writes scripts by chance, beside a model that tells it what there is.
type writer struct {
	*rand.Rand
	m           *model
	lines, told []string
	size        int
	calm        bool // nobody is to die
}

func newWriter(seed int64, sectors int) *writer {
	w := &writer{Rand: rand.New(rand.NewSource(seed)), m: begin(sectors)}
	w.lines = []string{fmt.Sprintf("disk %d", sectors)}
	w.told = modelled(w.lines)
	w.size = len(scriptOf(w.lines))
	return w
}

// adds adds a line, if there is room for it.
func (w *writer) adds(line string) {
	if w.calm && strings.HasPrefix(line, "arm") || len(w.lines) == 120 || w.size+len(line)+1 > 4000 {
		return
	}
	w.size += len(line) + 1
	w.lines, w.told = append(w.lines, line), append(w.told, w.m.plays(line))
}

// oneOf is one of some.
func oneOf[T any](w *writer, l ...T) T { return l[w.Intn(len(l))] }

func (w *writer) tenant() int { return oneOf(w, 1, 1, 1, 2, 2, 3, 1+w.Intn(8)) }
func (w *writer) volume() int { return oneOf(w, 1, 1, 1, 2, 2, 99, 1+w.Intn(99)) }
func (w *writer) block() int  { return oneOf(w, 0, 0, 1, 2, 3, 4, 59, w.Intn(60)) }
func (w *writer) word() string {
	return oneOf(w, "a", "a", "b", "b", "c", "d0", of("z", 32), fmt.Sprint(w.Intn(30)))
}
func (w *writer) domain() string { return oneOf(w, "d", "d", "d", "o", "p") }

func (w *writer) bits() string {
	s := ""
	for range oneOf(w, 1, 1, 2, 16, 17, 20, 1+w.Intn(20)) {
		s += fmt.Sprint(w.Intn(2))
	}
	return s
}

// line is one that is no raw one.
func (w *writer) line() string {
	k := w.tenant()
	switch w.Intn(30) {
	case 0, 1:
		return fmt.Sprintf("admin add %d %d", k, oneOf(w, 0, 3, 8, 20, 30, 83, 84, 65535))
	case 2:
		return fmt.Sprintf("admin remove %d", k)
	case 3:
		return fmt.Sprintf("admin look %d", k)
	case 4, 5, 6:
		return fmt.Sprintf("%d vol %d", k, w.volume())
	case 7:
		return fmt.Sprintf("%d unvol %d", k, w.volume())
	case 8:
		return fmt.Sprintf("%d vols", k)
	case 9:
		return fmt.Sprintf("%d stat", k)
	case 10:
		return fmt.Sprintf("domain %d %s", k, w.domain())
	case 11, 12:
		return fmt.Sprintf("arm %d %s", oneOf(w, 1, 16, 17, 18, 19, 19, 20, 36, 37, 38, 38, 1+w.Intn(38), 1+w.Intn(80), 1+w.Intn(999)), w.bits())
	case 13:
		return oneOf(w, "power", "audit", "totals", "acts")
	case 14:
		return oneOf(w, "audit", "totals", "acts")
	case 15, 16, 17:
		return fmt.Sprintf("%d read %d %d", k, w.volume(), w.block())
	case 18, 19, 20:
		return fmt.Sprintf("%d trim %d %d", k, w.volume(), w.block())
	}
	return fmt.Sprintf("%d write %d %d %s", k, w.volume(), w.block(), w.word())
}

// raw is a line by which a tenant sends bytes.
func (w *writer) raw() string {
	k, volume, at := w.tenant(), w.volume(), w.block()
	place := api.Request{Volume: volume, Block: oneOf(w, at, at, at, at, 60, 255)}
	switch w.Intn(8) {
	case 0:
		return fmt.Sprintf("%d raw %s", k, oneOf(w, "00", "07", "ff", "0d00000000", hexOf(frameOf(api.Request{Kind: 7}))+"00"))
	case 1:
		return rawLine(k, api.Request{Kind: oneOf(w, 1, 2, 3), Tenant: oneOf(w, k, k, 0, 9), Quota: 3})
	case 2:
		place.Kind = oneOf(w, 11, 12)
		return rawLine(k, place)
	case 3:
		return rawLine(k, oneOf(w, api.Request{Kind: 4, Volume: volume}, api.Request{Kind: 5, Volume: volume}, api.Request{Kind: 6}, api.Request{Kind: 7}))
	case 4:
		return rawUpload(k, volume, at, w.domain(), oneOf(w, blockOf(w.word()), blockOf("A"), noughts(256), of("x", 256)))
	case 5:
		return w.proof(k)
	}
	return rawLine(k, offerOf(k, volume, at, w.domain(), blockOf(w.word())))
}

// proof is a Prove, mostly of a challenge that is pending, and with a right sample if there is such a chunk.
func (w *writer) proof(k int) string {
	r := api.Request{Kind: 9, Nonce: w.Intn(6), Sample: noughts(8)}
	if n := len(w.m.pending[k]); n > 0 && w.Intn(4) > 0 {
		p := w.m.pending[k][w.Intn(n)]
		r.Nonce = p.nonce
		if data, there := w.m.store.chunks()[p.offer.Digest]; there && w.Intn(4) > 0 {
			r.Sample = sampleOf(data, p.places)
		}
	}
	return rawLine(k, r)
}

// chanceScript is a script of up to 120 lines, and what must be told of it.
func chanceScript(seed int64) *writer {
	w := newWriter(seed, []int{128, 128, 128, 130, 300, 1024}[seed%6])
	w.fills()
	return w
}

// fills writes it.
func (w *writer) fills() {
	for k := range 1 + w.Intn(3) {
		w.adds(fmt.Sprintf("admin add %d %d", k+1, oneOf(w, 6, 12, 20, 27)))
		w.adds(fmt.Sprintf("%d vol 1", k+1))
	}
	raws := 0
	for n := oneOf(w, 10, 40, 130); n > 0; n-- {
		switch {
		case w.Intn(9) == 0 && raws < 8:
			w.adds(w.raw())
			raws++
		default:
			w.adds(w.line())
		}
		// The same line again: behind a death, what was done is seen.
		if strings.HasPrefix(w.told[len(w.told)-1], "died") && w.Intn(2) == 0 {
			w.adds(w.lines[len(w.lines)-1])
		}
		if w.Intn(12) == 0 {
			w.adds("audit")
			w.adds("totals")
		}
	}
}

// Without crashes, frames of any askers: the replies are the model's.
func TestP1ScriptsWithoutDeathsAgainstAPlainModel(t *testing.T) {
	for seed := range int64(80) {
		w := newWriter(seed, 128)
		w.calm = true
		w.fills()
		tells(t, w.lines, w.told)
		if s := scriptOf(w.told); strings.Contains(s, "died") {
			t.Fatalf("seed %d: somebody died in\n%s", seed, s)
		}
	}
}

// Scripts by chance: each line is told as the model tells it.
func TestP9ScriptsByChanceAgainstAPlainModel(t *testing.T) {
	came := map[string]int{}
	for seed := range int64(700) {
		w := chanceScript(seed)
		tells(t, w.lines, w.told)
		for i, s := range w.told {
			words := strings.Fields(w.lines[i])
			what := words[0]
			if what != "domain" && what != "arm" && len(words) > 1 {
				what = words[1]
			}
			outcome := strings.Fields(s)[0]
			if what == "write" || what == "read" && (s == "done ?" || s == "lost") || outcome == "died" {
				outcome = s
			}
			came[what+" "+outcome]++
		}
	}
	for _, want := range []string{
		"add done", "add exists", "add noroom", "add died 1", "remove done", "remove notenant", "remove notempty", "look done", "look notenant",
		"vol done", "vol exists", "vol overquota", "vol notenant", "vol died 1", "unvol done", "unvol novolume", "unvol notempty", "unvol notenant",
		"vols done", "vols notenant", "stat done", "stat notenant", "write done proved", "write done uploaded", "write novolume", "write overquota", "write notenant", "write died 1", "write died 2",
		"read done", "read done ?", "read lost", "read unmapped", "read novolume", "read notenant", "trim done", "trim unmapped", "trim novolume", "trim died 1", "raw reply", "raw died 1",
	} {
		if came[want] == 0 {
			t.Errorf("%q did not come: %v", want, came)
		}
	}
}

// Every beginning of a script: what is told of it is the beginning of what is told of the whole.
func TestW2EachBeginning(t *testing.T) {
	for seed := range int64(10) {
		w := chanceScript(seed)
		for n := 1; n <= len(w.lines); n++ {
			s, e, at := world.Run(scriptOf(w.lines[:n]))
			if s != scriptOf(w.told[:n]) || e != api.OK || at != 0 {
				t.Fatalf("seed %d: the first %d lines: %q, %d, %d", seed, n, s, e, at)
			}
		}
	}
}
