package town_test

import (
	"fmt"
	"math/rand"
	"runtime"
	"strings"
	"sync"
	"testing"
	"time"

	"strongbox/api"
	"strongbox/town"
)

// writer writes scripts by chance, beside a model that tells it what there is.
type writer struct {
	*rand.Rand
	m           *model
	lines, told []string
	size        int
}

func newWriter(seed int64, sectors int) *writer {
	w := &writer{Rand: rand.New(rand.NewSource(seed)), m: begin(sectors)}
	w.adds(fmt.Sprintf("disk %d", sectors))
	return w
}

// adds adds a line, if there is room for it.
func (w *writer) adds(line string) {
	if len(w.lines) == 160 || w.size+len(line)+1 > 6000 {
		return
	}
	w.size += len(line) + 1
	w.lines, w.told = append(w.lines, line), append(w.told, w.m.plays(line))
}

// oneOf is one of some.
func oneOf[T any](w *writer, l ...T) T { return l[w.Intn(len(l))] }

func (w *writer) tenant() int { return oneOf(w, 1, 1, 1, 1, 2, 2, 3, 1+w.Intn(8)) }
func (w *writer) volume() int { return oneOf(w, 1, 1, 1, 1, 2, 2, 99, 1+w.Intn(99)) }
func (w *writer) block() int  { return oneOf(w, 0, 0, 1, 2, 3, 4, 59, w.Intn(60)) }
func (w *writer) word() string {
	return oneOf(w, "a", "a", "b", "b", "c", "d0", of("z", 32), fmt.Sprint(w.Intn(30)))
}
func (w *writer) name() string { return oneOf(w, "a", "a", "a", "b", "c", "abcdefgh") }

// signs are up to so many of some.
func (w *writer) signs(of string, most int) string {
	s := ""
	for range 1 + w.Intn(most) {
		s += string(of[w.Intn(len(of))])
	}
	return s
}

// ofStore is a line that a world has as well.
func (w *writer) ofStore() string {
	k := w.tenant()
	switch w.Intn(16) {
	case 0:
		return fmt.Sprintf("admin add %d %d", k, oneOf(w, 0, 3, 8, 20, 30, 83, 84, 65535))
	case 1, 2:
		return fmt.Sprintf("%d vol %d", k, w.volume())
	case 3:
		return fmt.Sprintf("%d unvol %d", k, w.volume())
	case 4:
		return fmt.Sprintf("%d stat", k)
	case 5:
		return oneOf(w, "power", "audit", "totals")
	case 6, 7, 8:
		return fmt.Sprintf("%d read %d %d", k, w.volume(), w.block())
	case 9, 10:
		return fmt.Sprintf("%d trim %d %d", k, w.volume(), w.block())
	}
	return fmt.Sprintf("%d write %d %d %s", k, w.volume(), w.block(), w.word())
}

// ofParts is a line of archives, replicas or links.
func (w *writer) ofParts() string {
	k := w.tenant()
	switch w.Intn(20) {
	case 0:
		return fmt.Sprintf("%d save %s %d", k, w.name(), w.volume())
	case 1, 2, 3:
		return fmt.Sprintf("%d more %s %d", k, w.name(), w.volume())
	case 4:
		return fmt.Sprintf("split %s %d %d", w.name(), oneOf(w, 1, 2, 3, 16, 1+w.Intn(16)), oneOf(w, 0, 1, 2, 8))
	case 5, 6, 7:
		return fmt.Sprintf("lose %s %d", w.name(), oneOf(w, 0, 1, 2, 3, w.Intn(24)))
	case 8, 9, 10:
		return fmt.Sprintf("%d load %s %d", k, w.name(), w.volume())
	case 11, 12:
		return "note"
	case 13, 14:
		return "ship " + oneOf(w, w.signs("01234", 4), w.signs("01234", 20), w.signs("0134", 3), "1")
	case 15:
		return oneOf(w, "promote", "note")
	case 16:
		return fmt.Sprintf("%d link", k)
	}
	return fmt.Sprintf("%d say %s %s", k, w.word(), w.signs(oneOf(w, "0124x", "04x", "12"), oneOf(w, 2, 8)))
}

// chanceScript is a script of up to 160 lines, and what must be told of it.
func chanceScript(seed int64) *writer {
	w := newWriter(seed, []int{128, 128, 128, 130, 300, 1024}[seed%6])
	for k := range 1 + w.Intn(3) {
		w.adds(fmt.Sprintf("admin add %d %d", k+1, oneOf(w, 6, 12, 20, 27)))
		w.adds(fmt.Sprintf("%d vol 1", k+1))
	}
	for n := oneOf(w, 10, 60, 170); n > 0; n-- {
		w.adds(oneOf(w, w.ofStore(), w.ofParts()))
		if w.Intn(12) == 0 {
			w.adds("audit")
			w.adds("totals")
		}
	}
	return w
}

// Scripts by chance: each line is told as the model tells it, and each thing that can be told is.
func TestN2ScriptsByChanceAgainstAPlainModel(t *testing.T) {
	came := map[string]int{}
	for seed := range int64(300) {
		w := chanceScript(seed)
		tells(t, w.lines, w.told)
		for i, s := range w.told {
			words := strings.Fields(w.lines[i])
			what := words[0]
			if strings.Contains("12345678 admin", what) {
				what = words[1]
			}
			outcome := strings.Fields(s)[0]
			if what == "write" || what == "read" && s == "lost" {
				outcome = s
			}
			if what == "say" && s != "-" && s != "none" {
				outcome = fmt.Sprint(1 + strings.Count(s, ","))
			}
			came[what+" "+outcome]++
		}
	}
	for _, want := range []string{
		"add done", "add exists", "add noroom", "vol done", "vol exists", "vol overquota", "vol notenant", "unvol done", "unvol novolume", "unvol notempty", "unvol notenant", "stat done", "stat notenant",
		"write done proved", "write done uploaded", "write novolume", "write overquota", "write notenant", "read done", "read lost", "read unmapped", "read novolume", "read notenant", "trim done", "trim unmapped", "trim novolume", "trim notenant",
		"save saved", "save novolume", "save notenant", "more changed", "more none", "more split", "more full", "more novolume", "more notenant", "split shards", "split none", "split split", "lose ok", "lose none",
		"load loaded", "load none", "load few", "load overquota", "load novolume", "load notenant", "note noted", "ship nobody", "ship replica", "promote promoted", "promote none", "link linked", "say none", "say -", "say 1", "say 2", "audit findings", "totals chunks", "power up",
	} {
		if came[want] == 0 {
			t.Errorf("%q did not come: %v", want, came)
		}
	}
}

// Every beginning of a script: what is told of it is the beginning of what is told of the whole.
func TestN2EachBeginning(t *testing.T) {
	for seed := range int64(6) {
		w := chanceScript(seed)
		whole, _, _ := town.Run(scriptOf(w.lines))
		for n := 1; n <= len(w.lines); n++ {
			s, e, at := town.Run(scriptOf(w.lines[:n]))
			if s != scriptOf(w.told[:n]) || !strings.HasPrefix(whole, s) || e != api.OK || at != 0 {
				t.Fatalf("seed %d: the first %d lines: %q, %d, %d", seed, n, s, e, at)
			}
		}
	}
}

// Of a script that is refused nothing is played, whichever line it is.
func TestN1NothingIsPlayedOfAScriptThatIsRefused(t *testing.T) {
	w := chanceScript(2)
	for at := range w.lines {
		if at > 0 {
			refuses(t, scriptOf(w.lines[:at])+"note \n"+scriptOf(w.lines[at:]), api.ErrTownLine, at+1)
		}
	}
}

// What was saved is brought back into the same volume by the same tenant, as it was when it was saved or changed last. Held against nothing but what is read of the blocks.
func TestN3WhatWasSavedIsBroughtBack(t *testing.T) {
	reads := []string{"1 read 1 0", "1 read 1 1", "1 read 1 2", "1 read 1 3", "1 read 1 59"}
	loaded := 0
	for seed := range int64(50) {
		r := rand.New(rand.NewSource(seed))
		lines := []string{"disk 128", "admin add 1 12", "1 vol 1"}
		for len(lines) < 140 {
			at := []int{0, 1, 2, 3, 59}[r.Intn(5)]
			name := string(rune('a' + r.Intn(3)))
			var l []string
			switch r.Intn(9) {
			case 0:
				l = append(append(l, reads...), "1 save "+name+" 1")
			case 1, 2:
				l = append(append(l, reads...), "1 more "+name+" 1")
			case 3:
				l = append(l, fmt.Sprintf("split %s %d %d", name, 1+r.Intn(4), r.Intn(3)))
			case 4:
				l = append(l, fmt.Sprintf("lose %s %d", name, r.Intn(6)))
			case 5:
				l = append(append(l, "1 load "+name+" 1"), reads...)
			case 6:
				l = append(l, fmt.Sprintf("1 trim 1 %d", at))
			default:
				l = append(l, fmt.Sprintf("1 write 1 %d %c", at, 'a'+r.Intn(4)))
			}
			lines = append(lines, l...)
		}
		s, _, _ := town.Run(scriptOf(lines))
		told := strings.Split(s, "\n")
		kept := map[string]string{} // what was read when a NAME was saved or changed last
		for i, line := range lines {
			f := strings.Fields(line)
			switch {
			case strings.HasPrefix(told[i], "saved") || strings.HasPrefix(told[i], "changed"):
				kept[f[2]] = strings.Join(told[i-5:i], ",")
			case strings.HasPrefix(told[i], "loaded"):
				loaded++
				if got := strings.Join(told[i+1:i+6], ","); got != kept[f[2]] {
					t.Fatalf("seed %d, line %d: %s: %s, want %s in\n%s", seed, i+1, line, got, kept[f[2]], scriptOf(lines))
				}
			}
		}
	}
	if loaded < 120 {
		t.Errorf("%d were loaded", loaded)
	}
}

// A replica that is promoted is the store as it was when the image of that number was noted. Held against nothing but what is told of the store then.
func TestN3APromotedReplicaIsTheStoreAsItWasNoted(t *testing.T) {
	asks := []string{"totals", "1 stat", "2 stat", "1 read 1 0", "1 read 1 1", "2 read 1 0", "2 read 1 1", "audit"}
	promoted := 0
	for seed := range int64(80) {
		r := rand.New(rand.NewSource(seed))
		lines := []string{"disk 128", "admin add 1 20", "1 vol 1"}
		for len(lines) < 146 {
			k, at := 1+r.Intn(2), r.Intn(2)
			var l []string
			switch r.Intn(12) {
			case 0, 1:
				l = append(append(l, asks...), "note")
			case 2, 3:
				digits := ""
				for range 1 + r.Intn(5) {
					digits += fmt.Sprint([]int{1, 1, 1, 0, 2, 3, 4}[r.Intn(7)])
				}
				l = append(l, "ship "+digits)
			case 4:
				l = append(append(l, "promote"), asks...)
			case 5:
				l = append(l, []string{"admin add 2 20", "2 vol 1"}[r.Intn(2)])
			case 6:
				l = append(l, fmt.Sprintf("%d trim 1 %d", k, at))
			default:
				l = append(l, fmt.Sprintf("%d write 1 %d %c", k, at, 'a'+r.Intn(6)))
			}
			lines = append(lines, l...)
		}
		s, _, _ := town.Run(scriptOf(lines))
		told := strings.Split(s, "\n")
		var noted []string // by numbers, from 1 on
		for i := range lines {
			var n int
			switch {
			case told[i] == "noted":
				noted = append(noted, strings.Join(told[i-len(asks):i], ","))
			case strings.HasPrefix(told[i], "promoted"):
				promoted++
				fmt.Sscanf(told[i], "promoted %d", &n)
				if got := strings.Join(told[i+1:i+1+len(asks)], ","); got != noted[n-1] {
					t.Fatalf("seed %d, line %d: %s: %s, want %s in\n%s", seed, i+1, told[i], got, noted[n-1], scriptOf(lines))
				}
				noted = nil
			}
		}
	}
	if promoted < 60 {
		t.Errorf("%d were promoted", promoted)
	}
}

// A message is taken at most once, and unchanged: all words of a script are different ones here.
func TestN3EachMessageOnceAtMost(t *testing.T) {
	for seed := range int64(60) {
		w := newWriter(seed, 128)
		w.adds("1 link")
		w.adds("2 link")
		whose := map[string]string{}
		for n := range 155 {
			k := fmt.Sprint(1 + w.Intn(2))
			whose[fmt.Sprintf("m%d", n)] = k
			w.adds(fmt.Sprintf("%s say m%d %s", k, n, w.signs("0124x", 8)))
		}
		s, _, _ := town.Run(scriptOf(w.lines))
		heard := map[string]int{}
		for i, told := range strings.Split(strings.TrimSuffix(s, "\n"), "\n")[3:] {
			if told == "-" {
				continue
			}
			for _, m := range strings.Split(told, ",") {
				heard[m]++
				if whose[m] != w.lines[i+3][:1] || heard[m] > 1 {
					t.Fatalf("seed %d: %s: %s", seed, w.lines[i+3], told)
				}
			}
		}
		if len(heard) < 60 {
			t.Errorf("seed %d: %d messages were heard", seed, len(heard))
		}
	}
}

// A script's transcript hangs on the script alone: again, behind others, and with others at the same time.
func TestN2AgainAndSeveralAtOnce(t *testing.T) {
	var all sync.WaitGroup
	var scripts, wants []string
	for seed := range int64(24) {
		w := chanceScript(seed)
		scripts, wants = append(scripts, scriptOf(w.lines)), append(wants, scriptOf(w.told))
	}
	for g := range 8 {
		all.Add(1)
		go func() {
			defer all.Done()
			for i := range scripts {
				k := (i*5 + g) % len(scripts)
				if s, e, at := town.Run(scripts[k]); s != wants[k] || e != api.OK || at != 0 {
					t.Errorf("script %d: %d, %d: %q", k, e, at, s)
				}
			}
		}()
	}
	all.Wait()
	for range 3 {
		if s, _, _ := town.Run(scripts[0]); s != wants[0] {
			t.Errorf("again: %q", s)
		}
	}
}

func TestR2NoGoroutineIsLeft(t *testing.T) {
	before := runtime.NumGoroutine()
	for seed := range int64(20) {
		w := chanceScript(seed)
		w.adds("audit")
		town.Run(scriptOf(w.lines))
		town.Run(scriptOf(w.lines) + "x")
	}
	// One that has told that it is over may take a moment to be gone.
	for range 100 {
		if runtime.NumGoroutine() <= before {
			return
		}
		time.Sleep(10 * time.Millisecond)
	}
	t.Errorf("%d goroutines, %d ahead", runtime.NumGoroutine(), before)
}

// Texts of any bytes: none panics, and what is told is what N1 says.
func TestR1AnyBytes(t *testing.T) {
	const signs = "1 link\n1 stat\nnote\naudit\nship 1\n1 say a x\n"
	lines := oracle()
	for seed := range int64(3000) {
		r := rand.New(rand.NewSource(seed))
		b := make([]byte, r.Intn(60))
		for i := range b {
			b[i] = signs[r.Intn(len(signs))]
			if r.Intn(3) == 0 {
				b[i] = byte(r.Intn(256))
			}
		}
		for _, s := range []string{string(b), first + string(b), first + string(b) + "\n"} {
			want, line := judged(lines, s)
			if _, e, at := town.Run(s); e != want || at != line {
				t.Fatalf("Run(%q) = %d, %d, want %d, %d", s, e, at, want, line)
			}
		}
	}
}
