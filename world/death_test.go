package world_test

import (
	"fmt"
	"math/rand"
	"strings"
	"testing"
)

// change is a line that changes a store: the lines ahead of it, itself, a line that tells whether it is done, and what that tells if it is not, and if it is.
type change struct{ ahead, line, told, look, was, is string }

func changes() []change {
	return []change{
		{"", "admin add 2 9", "done", "admin look 2", "notenant", "done quota 9 charge 0 volumes -"},
		{"admin add 2 9", "admin remove 2", "done", "admin look 2", "done quota 9 charge 0 volumes -", "notenant"},
		{"", "1 vol 7", "done", "1 vols", "done 5", "done 5,7"},
		{"1 vol 7", "1 unvol 7", "done", "1 vols", "done 5,7", "done 5"},
		{"", "1 write 5 0 new", "done uploaded", "1 read 5 0", "unmapped", "done new"},
		{"1 write 5 0 old", "1 write 5 0 new", "done uploaded", "1 read 5 0", "done old", "done new"},
		{"1 write 5 0 old;1 write 5 1 new", "1 write 5 0 new", "done proved", "1 read 5 0", "done old", "done new"},
		{"1 write 5 9 new", "1 write 5 0 new", "done proved", "1 read 5 0", "unmapped", "done new"},
		{"1 write 5 0 old", "1 trim 5 0", "done", "1 read 5 0", "done old", "unmapped"},
		{"1 write 5 0 old;1 write 5 1 old", "1 trim 5 0", "done", "1 read 5 0", "done old", "unmapped"},
	}
}

// lines are those of a script up to the change, with deaths armed ahead of it.
func (c change) lines(deaths ...string) []string {
	l := []string{"disk 128", "admin add 1 20", "1 vol 5"}
	if c.ahead != "" {
		l = append(l, strings.Split(c.ahead, ";")...)
	}
	l = append(l, deaths...)
	return append(l, c.line)
}

var someBits = []string{"0", "1", "00", "01", "10", "0111111111111111", "1000000000000000", "11111111111111111111", "01111111111111111111", "00000000000000000001"}

// At each act, whatever stays: the change is done as a whole, or not at all, and which of both is told by the act and the first bit.
func TestW3ADeathAtEachAct(t *testing.T) {
	for k, c := range changes() {
		for n := 1; n <= 40; n++ {
			for i, bits := range someBits {
				// All bits at the acts at which they matter, some of them at each other one.
				if n != 18 && n != 19 && n != 20 && n != 37 && n != 38 && (i+n+k)%5 > 0 {
					continue
				}
				told, look := "died 1", c.was
				if n > 38 {
					told = c.told
				}
				if n > 19 || n == 19 && bits[0] == '1' {
					look = c.is
				}
				lines := append(c.lines(fmt.Sprintf("arm %d %s", n, bits)), c.look, "audit", "power", c.look, "totals")
				want := modelled(lines)
				at := len(lines) - 6
				want[at], want[at+1], want[at+2], want[at+4] = told, look, "findings 0", look
				tells(t, lines, want)
				agrees(t, lines)
			}
		}
	}
}

// Which acts are done when the disk dies, and of the opening behind it.
func TestW3ActsOfADeath(t *testing.T) {
	c := changes()[5]
	for n := 1; n <= 38; n++ {
		for _, bits := range []string{"0", "1"} {
			acts := n - 1
			if n > 19 && n < 38 || n == 19 && bits == "1" || n == 38 && bits == "0" {
				acts += 19
			}
			lines := append(c.lines("acts", fmt.Sprintf("arm %d %s", n, bits)), "acts", "audit")
			want := modelled(lines)
			want[len(want)-3], want[len(want)-2] = "died 1", fmt.Sprintf("acts %d", acts)
			tells(t, lines, want)
			agrees(t, lines)
		}
	}
}

// Deaths while the store is opened again: at each act of the opening, and again in the opening behind that.
func TestP2DeathsWhileItIsOpened(t *testing.T) {
	c := changes()[5]
	for n := 1; n <= 20; n++ {
		for _, bits := range []string{"0", "1", "1111111111111111", "0101010101010101"} {
			lines := append(c.lines("arm 20 0", fmt.Sprintf("arm %d %s", n, bits)), "audit", c.look, "acts", "1 write 5 0 more", "acts", "audit", c.look)
			want := modelled(lines)
			died, at := "died 2", len(lines)-8
			if n > 19 {
				// It lives through the opening, and dies at the first act of the next change.
				died = "died 1"
				want[at+4] = "died 1"
			}
			want[at], want[at+1], want[at+2] = died, "findings 0", c.is
			tells(t, lines, want)
			agrees(t, lines)
		}
	}
	for n := 1; n <= 19; n++ {
		for m := 1; m <= 19; m++ {
			lines := append(c.lines("arm 25 01", fmt.Sprintf("arm %d 0", n), fmt.Sprintf("arm %d 0", m)), "audit", c.look, "totals", "acts")
			want := modelled(lines)
			want[len(lines)-5], want[len(lines)-4], want[len(lines)-3] = "died 3", "findings 0", c.is
			tells(t, lines, want)
			agrees(t, lines)
		}
	}
}

// A long row of deaths, all in one line.
func TestP2ManyDeathsInOneLine(t *testing.T) {
	for _, n := range []int{1, 10, 17, 18, 19} {
		deaths := []string{"arm 30 1"}
		for range 60 {
			deaths = append(deaths, fmt.Sprintf("arm %d 0", n))
		}
		lines := append(changes()[5].lines(deaths...), "1 read 5 0", "audit", "acts")
		want := modelled(lines)
		want[len(want)-4], want[len(want)-3], want[len(want)-2] = "died 61", "done new", "findings 0"
		tells(t, lines, want)
		agrees(t, lines)
	}
	// The bits of the last one let the head go: no opening does anything behind that.
	plays(t, `
disk 128             | sectors 128 data 85
admin add 1 20       | done
arm 38 0             | ok
arm 19 01            | ok
arm 19 10            | ok
arm 19 11            | ok
1 vol 3              | died 3
acts                 | acts 111
1 vols               | done 3
1 vol 4              | died 1
acts                 | acts 37
1 vols               | done 3,4
1 vol 5              | done
acts                 | acts 38
audit                | findings 0
`)
}

// A death waits over lines that do no act, and counts the acts of those that do.
func TestW3ADeathWaits(t *testing.T) {
	plays(t, `
disk 128             | sectors 128 data 85
arm 77 0             | ok
admin add 1 20       | done
1 stat               | done quota 20 charge 0
audit                | findings 0
totals               | chunks 0 pages 0 mapped 0 charged 0 promised 20 capacity 83
domain 1 o           | ok
1 vol 1              | done
1 vol 1              | exists
1 vol 2              | died 1
1 vols               | done 1
1 vol 2              | done
acts                 | acts 114
`)
	// The same line again: a Write, a Read, a Trim.
	plays(t, `
disk 128             | sectors 128 data 85
admin add 1 20       | done
1 vol 1              | done
arm 7 0              | ok
1 read 1 0           | unmapped
1 write 1 0 a        | died 1
1 write 1 0 a        | done uploaded
arm 7 0              | ok
1 read 1 0           | done a
1 read 1 0           | done a
1 write 1 0 a        | died 1
1 write 1 0 a        | done proved
arm 30 0             | ok
1 write 1 1 b        | died 1
1 write 1 1 b        | done proved
arm 7 0              | ok
1 trim 1 0           | died 1
1 trim 1 0           | done
arm 30 0             | ok
1 trim 1 1           | died 1
1 trim 1 1           | unmapped
1 read 1 1           | unmapped
arm 30 0             | ok
admin add 2 1        | died 1
admin add 2 1        | exists
arm 30 0             | ok
admin remove 2       | died 1
admin remove 2       | notenant
arm 30 0             | ok
1 vol 2              | died 1
1 vol 2              | exists
arm 30 0             | ok
1 unvol 2            | died 1
1 unvol 2            | novolume
audit                | findings 0
totals               | chunks 0 pages 1 mapped 0 charged 1 promised 20 capacity 83
`)
}

// A row: each death counts from when the one ahead of it was.
func TestW3ARowOfDeaths(t *testing.T) {
	plays(t, `
disk 128             | sectors 128 data 85
admin add 1 20       | done
1 vol 1              | done
acts                 | acts 76
arm 5 0              | ok
arm 1 0              | ok
arm 39 0             | ok
arm 40 1             | ok
1 write 1 0 a        | died 1
acts                 | acts 4
1 write 1 0 a        | died 1
acts                 | acts 0
1 write 1 0 a        | done uploaded
acts                 | acts 38
1 write 1 0 b        | died 1
acts                 | acts 0
1 read 1 0           | done a
1 write 1 0 b        | done uploaded
1 write 1 0 c        | died 1
acts                 | acts 39
1 read 1 0           | done b
1 write 1 0 c        | done uploaded
audit                | findings 0
`)
	// One that is put behind others does not arm the disk anew.
	plays(t, `
disk 128             | sectors 128 data 85
arm 40 0             | ok
admin add 1 20       | done
arm 40 0             | ok
1 vol 1              | died 1
acts                 | acts 39
1 vol 1              | done
1 vol 2              | died 1
1 vols               | done 1
`)
}

func TestW3Power(t *testing.T) {
	// With none in the row, twice one behind the other, and what was answered is there.
	plays(t, `
disk 128             | sectors 128 data 85
power                | up
power                | up
admin add 1 20       | done
power                | up
1 vol 1              | done
1 write 1 0 a        | done uploaded
power                | up
power                | up
1 read 1 0           | done a
acts                 | acts 114
audit                | findings 0
`)
	// With deaths in the row: the first one counts anew from then on, and none is taken out.
	plays(t, `
disk 128             | sectors 128 data 85
arm 40 0             | ok
arm 3 0              | ok
admin add 1 20       | done
power                | up
power                | up
1 vol 1              | done
power                | up
1 vol 2              | done
1 vol 3              | died 1
acts                 | acts 115
power                | up
1 vol 3              | died 1
acts                 | acts 2
power                | up
1 vol 3              | done
1 vols               | done 1,2,3
audit                | findings 0
`)
	// A client and its domain are not the server's: they stay as they are.
	plays(t, `
disk 128             | sectors 128 data 85
admin add 1 20       | done
1 vol 1              | done
domain 1 o           | ok
1 write 1 0 a        | done uploaded
power                | up
1 read 1 0           | done a
arm 1 0              | ok
1 trim 1 0           | died 1
1 read 1 0           | done a
domain 1 d           | ok
1 read 1 0           | lost
`)
}

// Every N to 80 over two changes, one behind the other, with audits and totals behind each line.
func TestP8AuditsBehindEachDeath(t *testing.T) {
	r := rand.New(rand.NewSource(17))
	for n := 1; n <= 80; n++ {
		bits := ""
		for range 1 + r.Intn(20) {
			bits += fmt.Sprint(r.Intn(2))
		}
		lines := []string{"disk 128", "admin add 1 20", "1 vol 5", "1 write 5 0 old", fmt.Sprintf("arm %d %s", n, bits)}
		for _, l := range []string{"1 write 5 0 new", "1 trim 5 0", "power", "1 write 5 0 old"} {
			lines = append(lines, l, "audit", "totals", "acts", "1 read 5 0")
		}
		told := agrees(t, lines)
		died := 0
		for i, s := range told {
			if lines[i] == "audit" && s != "findings 0" {
				t.Errorf("dead at %d: %s", n, s)
			}
			if s == "died 1" {
				died++
			}
		}
		if n <= 76 && died != 1 {
			t.Errorf("armed with %d it died %d times", n, died)
		}
	}
}
