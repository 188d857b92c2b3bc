package world_test

import (
	"fmt"
	"math/rand"
	"runtime"
	"strings"
	"sync"
	"testing"
	"time"

	"strongbox/api"
	"strongbox/world"
)

// Two worlds in which the admin and tenant 1 send the same frames, with the same draws, and others what they like.
type pair struct {
	*rand.Rand
	a, b *writer
	mine []int // the lines of the admin and of tenant 1, in a and in b by turns
}

// both adds a line of the admin's or of tenant 1's.
func (p *pair) both(line string) {
	if len(p.a.lines) == 120 || len(p.b.lines) == 120 || max(p.a.size, p.b.size)+len(line) >= 4000 {
		return
	}
	p.mine = append(p.mine, len(p.a.lines), len(p.b.lines))
	p.a.adds(line)
	p.b.adds(line)
}

// others lets the others do what they like, in as many frames in the one world as in the other.
func (p *pair) others() {
	for _, w := range []*writer{p.a, p.b} {
		for range w.Intn(3) {
			k := 2 + w.Intn(2)
			w.adds(oneOf(w,
				fmt.Sprintf("%d write %d %d %s", k, 1+w.Intn(2), w.Intn(6), w.words()),
				fmt.Sprintf("%d write %d %d %s", k, 1+w.Intn(2), w.Intn(6), w.words()),
				fmt.Sprintf("%d trim %d %d", k, 1+w.Intn(2), w.Intn(6)),
				fmt.Sprintf("%d read %d %d", k, 1+w.Intn(2), w.Intn(6)),
				fmt.Sprintf("%d vol %d", k, 1+w.Intn(2)),
				fmt.Sprintf("%d unvol %d", k, 1+w.Intn(2)),
			))
		}
	}
	for _, w := range []*writer{p.a, p.b} {
		for w.m.frames < max(p.a.m.frames, p.b.m.frames) {
			w.adds("3 stat")
			if len(w.lines) == 120 || w.size > 3990 {
				break
			}
		}
	}
}

// words are some that all tenants use.
func (w *writer) words() string { return oneOf(w, "a", "b", "c", "e", "f") }

// isOthers tells whether only others have a word's chunk.
func (w *writer) isOthers(word string) bool {
	data, _ := sealed(domainOf("d"), blockOf(word))
	own := store{1: w.m.store[1]}
	_, there := w.m.store.chunks()[sumOf(data)]
	_, isOwn := own.chunks()[sumOf(data)]
	return there && !isOwn
}

// mineOf is a line of tenant 1's or of the admin's: never a right proof of what only others have.
func (p *pair) mineOf() string {
	word := p.a.words()
	volume, at := 1+p.Intn(2), p.Intn(6)
	switch p.Intn(10) {
	case 0:
		return "admin look 1"
	case 1:
		return fmt.Sprintf("admin add 4 %d", p.Intn(50))
	case 2:
		return oneOf(p.a, "1 vols", "1 stat", fmt.Sprintf("1 vol %d", volume), fmt.Sprintf("1 unvol %d", volume))
	case 3:
		return fmt.Sprintf("1 trim %d %d", volume, at)
	case 4:
		return fmt.Sprintf("1 read %d %d", volume, at)
	case 5, 6:
		// Whether others have it or not: a challenge, with the same places.
		return rawLine(1, offerOf(1, volume, at, "d", blockOf(word)))
	case 7:
		// Not proved: whether others have it or not.
		return rawLine(1, api.Request{Kind: 9, Nonce: 1 + p.Intn(9), Sample: "no proof"})
	}
	if p.a.isOthers(word) || p.b.isOthers(word) {
		return "1 stat"
	}
	return fmt.Sprintf("1 write %d %d %s", volume, at, word)
}

func TestP4NobodyLearnsOfOthers(t *testing.T) {
	differing := 0
	for seed := range int64(60) {
		p := &pair{Rand: rand.New(rand.NewSource(seed)), a: newWriter(2*seed, 128), b: newWriter(2*seed+1, 128)}
		for _, line := range []string{"admin add 1 20", "admin add 2 20", "admin add 3 20", "1 vol 1"} {
			p.both(line)
		}
		for len(p.a.lines) < 100 && len(p.b.lines) < 100 && max(p.a.size, p.b.size) < 3600 {
			p.others()
			if p.a.m.frames != p.b.m.frames {
				break
			}
			p.both(p.mineOf())
		}
		a, _, _ := world.Run(scriptOf(p.a.lines))
		b, _, _ := world.Run(scriptOf(p.b.lines))
		tells(t, p.a.lines, p.a.told)
		tells(t, p.b.lines, p.b.told)
		inA, inB := strings.Split(a, "\n"), strings.Split(b, "\n")
		for i := 0; i < len(p.mine); i += 2 {
			if x, y := inA[p.mine[i]], inB[p.mine[i+1]]; x != y {
				t.Fatalf("seed %d: %s: %s in the one world, %s in the other:\n%s\n%s", seed, short(p.a.lines[p.mine[i]]), short(x), short(y), scriptOf(p.a.lines), scriptOf(p.b.lines))
			}
		}
		if p.a.m.totals() != p.b.m.totals() {
			differing++
		}
	}
	if differing < 40 {
		t.Errorf("the worlds differ in %d pairs", differing)
	}
}

// By a right proof of what only others have it is learnt: that alone tells two worlds apart.
func TestP4WhatIsProvedIsLearnt(t *testing.T) {
	for _, x := range []struct{ other, told string }{{"secret", "done proved"}, {"public", "done uploaded"}} {
		tells(t, []string{"disk 128", "admin add 1 9", "admin add 2 9", "1 vol 1", "2 vol 1", "2 write 1 0 " + x.other, "1 write 1 0 secret"},
			[]string{"sectors 128 data 85", "done", "done", "done", "done", "done uploaded", x.told})
	}
}

// All that was promised can be had, to the last sector, by one tenant and by several.
func TestP5NothingIsRefusedForWantOfSectors(t *testing.T) {
	// 83: three roots, 20 leaves and 60 blocks.
	lines := []string{"disk 128", "admin add 1 83", "1 vol 1"}
	for b := range 60 {
		lines = append(lines, fmt.Sprintf("1 write 1 %d w%d", b, b))
	}
	lines = append(lines, "1 stat", "1 vol 2", "1 write 2 0 x", "1 vol 3", "1 write 3 0 x", "totals")
	// Each block written anew: the new chunk has a place ahead of the old one's being free.
	for b := range 45 {
		lines = append(lines, fmt.Sprintf("1 write 1 %d n%d", b, b))
	}
	lines = append(lines, "1 read 1 44", "1 read 1 45", "audit", "totals", "1 stat")
	told := agrees(t, lines)
	for i, s := range told {
		if strings.HasPrefix(lines[i], "1 write 1") && s != "done uploaded" {
			t.Errorf("%s: %s", lines[i], s)
		}
	}
	if s := told[len(told)-1]; s != "done quota 83 charge 83" {
		t.Errorf("it is told %q", s)
	}
	// Eight tenants: two roots, two leaves and six blocks each, and three more of the last one.
	lines = []string{"disk 128"}
	for k := 1; k <= 8; k++ {
		lines = append(lines, fmt.Sprintf("admin add %d %d", k, 10+k/8*3), fmt.Sprintf("%d vol 1", k))
		for b := range 6 {
			lines = append(lines, fmt.Sprintf("%d write 1 %d t%db%d", k, b, k, b))
		}
		lines = append(lines, fmt.Sprintf("%d vol 2", k))
	}
	lines = append(lines, "8 write 2 0 more", "8 write 2 1 yet", "8 write 2 2 none", "admin add 1 0", "totals", "audit")
	told = agrees(t, lines)
	for i, s := range told[:len(told)-4] {
		if !strings.HasPrefix(s, "done") && i > 0 {
			t.Errorf("%s: %s", lines[i], s)
		}
	}
	if s := told[len(told)-2]; s != "chunks 50 pages 33 mapped 50 charged 83 promised 83 capacity 83" {
		t.Errorf("it is told %q", s)
	}
}

// fewPlaces is a script about few blocks of two tenants, with deaths.
func fewPlaces(seed int64) []string {
	r := rand.New(rand.NewSource(seed))
	lines := []string{"disk 128", "admin add 1 40", "admin add 2 40", "1 vol 1", "2 vol 1"}
	for len(lines) < 118 {
		at := fmt.Sprintf("1 %d", r.Intn(4))
		k := 1 + r.Intn(2)
		switch r.Intn(10) {
		case 0:
			lines = append(lines, fmt.Sprintf("arm %d %d%d", 1+r.Intn(60), r.Intn(2), r.Intn(2)))
		case 1:
			lines = append(lines, fmt.Sprintf("%d trim %s", k, at))
		case 2:
			lines = append(lines, "power")
		case 3, 4, 5:
			lines = append(lines, fmt.Sprintf("%d write %s %c", k, at, 'a'+r.Intn(6)))
		default:
			lines = append(lines, fmt.Sprintf("%d read %s", k, at))
		}
	}
	return lines
}

// Whatever others do, and whenever the disk dies: a Read gives what the last Write gave that was told to be over. Held against nothing but the lines themselves.
func TestP6WhatWasWrittenIsRead(t *testing.T) {
	came := map[string]int{}
	for seed := range int64(120) {
		lines := fewPlaces(seed)
		s, _, _ := world.Run(scriptOf(lines))
		told := strings.Split(s, "\n")
		known := map[string]string{} // what a Read must tell, by tenants and places
		for i, line := range lines {
			f := append(strings.Fields(line), "", "", "", "")
			at := f[0] + " " + f[2] + " " + f[3]
			if known[at] == "" {
				known[at] = "unmapped"
			}
			switch {
			case f[1] == "read" && known[at] == "?":
				// It is one of both, and the same from then on.
				known[at] = told[i]
			case f[1] == "read":
				came[strings.Fields(told[i])[0]]++
				if told[i] != known[at] {
					t.Fatalf("seed %d, line %d: %s: %s, want %s in\n%s", seed, i+1, line, told[i], known[at], scriptOf(lines))
				}
			case strings.HasPrefix(told[i], "died"):
				came["died"]++
				known[at] = "?"
			case f[1] == "write":
				known[at] = "done " + f[4]
			case f[1] == "trim":
				known[at] = "unmapped"
			}
		}
	}
	if came["done"] < 1000 || came["unmapped"] < 500 || came["died"] < 200 {
		t.Errorf("it came to %v", came)
	}
}

// A script's transcript hangs on the script alone: again, behind others, and with others at the same time.
func TestP9AgainAndSeveralAtOnce(t *testing.T) {
	var all sync.WaitGroup
	var scripts, wants []string
	for seed := range int64(24) {
		w := chanceScript(seed)
		scripts, wants = append(scripts, scriptOf(w.lines)), append(wants, scriptOf(w.told))
	}
	for g := range 8 {
		all.Add(1)
		go func() {
			defer all.Done()
			for i := range scripts {
				k := (i*5 + g) % len(scripts)
				if s, e, at := world.Run(scripts[k]); s != wants[k] || e != api.OK || at != 0 {
					t.Errorf("script %d: %d, %d: %q", k, e, at, s)
				}
			}
		}()
	}
	all.Wait()
	for range 3 {
		if s, _, _ := world.Run(scripts[0]); s != wants[0] {
			t.Errorf("again: %q", s)
		}
	}
}

func TestR2NoGoroutineIsLeft(t *testing.T) {
	before := runtime.NumGoroutine()
	for seed := range int64(20) {
		w := chanceScript(seed)
		for _, line := range []string{"audit", "arm 20 1", "1 write 1 0 x", "audit"} {
			w.adds(line)
		}
		world.Run(scriptOf(w.lines))
		world.Run(scriptOf(w.lines) + "x")
	}
	// One that has told that it is over may take a moment to be gone.
	for range 100 {
		if runtime.NumGoroutine() <= before {
			return
		}
		time.Sleep(10 * time.Millisecond)
	}
	t.Errorf("%d goroutines, %d ahead", runtime.NumGoroutine(), before)
}

// Texts of any bytes: none panics, and what is told is what W1 says.
func TestR1AnyBytes(t *testing.T) {
	lines := oracle()
	for seed := range int64(4000) {
		r := rand.New(rand.NewSource(seed))
		b := make([]byte, r.Intn(60))
		for i := range b {
			b[i] = oneOfBytes(r)
		}
		for _, s := range []string{string(b), first + string(b), first + string(b) + "\n"} {
			want, line := judged(lines, s)
			if _, e, at := world.Run(s); e != want || at != line {
				t.Fatalf("Run(%q) = %d, %d, want %d, %d", s, e, at, want, line)
			}
		}
	}
}

// oneOfBytes is any byte, mostly one that a script may have.
func oneOfBytes(r *rand.Rand) byte {
	const signs = "1 vols\n1 stat\nacts\naudit\npower\n"
	if r.Intn(3) == 0 {
		return byte(r.Intn(256))
	}
	return signs[r.Intn(len(signs))]
}
