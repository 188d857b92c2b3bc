package disk_test

import (
	"math"
	"slices"
	"testing"

	"strongbox/api"
	"strongbox/disk"
)

// script is some acts: a write for each number from 0 on, a flush for each below.
func script() []int { return []int{0, 1, 0, -1, 127, 0, -1, -1, 5, 5, 5, 1} }

// play does the acts of a script, until one is refused: how many were done.
func play(d *disk.Disk, l []int) int {
	for n, i := range l {
		e := api.OK
		if i < 0 {
			e = d.Flush()
		} else {
			e = d.Write(i, text(n))
		}
		if e != api.OK {
			return n
		}
	}
	return len(l)
}

// playModel does the first acts of a script with a model.
func playModel(l []int, many int) *model {
	m := newModel(blank(128))
	for n, i := range l[:many] {
		if i < 0 {
			m.flush()
		} else {
			m.write(i, text(n))
		}
	}
	return m
}

func TestD5DiesAtEachAct(t *testing.T) {
	l := script()
	for n := 1; n <= len(l); n++ {
		d := made(t, 128)
		answers(t, "Arm", d.Arm(n), api.OK)
		if done := play(d, l); done != n-1 {
			t.Fatalf("armed by %d it did %d acts, want %d", n, done, n-1)
		}
		m := playModel(l, n-1)
		m.dead = true
		same(t, "dead", d, m)
	}
}

func TestD5LivesWhileFewerActsFollow(t *testing.T) {
	l := script()
	for _, n := range []int{0, len(l) + 1, len(l) + 2, 1 << 32, 1<<32 + 1, math.MaxInt} {
		d := made(t, 128)
		answers(t, "Arm", d.Arm(n), api.OK)
		if done := play(d, l); done != len(l) {
			t.Fatalf("armed by %d it did %d acts, want %d", n, done, len(l))
		}
		same(t, "alive", d, playModel(l, len(l)))
		e := d.Flush()
		if n == len(l)+1 {
			answers(t, "Flush at the last act", e, api.ErrDead)
		} else {
			answers(t, "Flush ahead of the last act", e, api.OK)
		}
	}
}

func TestD5ArmRefusesNumbersBelowNought(t *testing.T) {
	for _, n := range []int{-1, -2, -1 << 32, math.MinInt} {
		d := made(t, 128)
		answers(t, "Arm", d.Arm(2), api.OK)
		answers(t, "Arm below 0", d.Arm(n), api.ErrArg)
		answers(t, "Flush", d.Flush(), api.OK)
		answers(t, "Arm below 0", d.Arm(n), api.ErrArg)
		answers(t, "Flush, armed by 2 as before", d.Flush(), api.ErrDead)
		answers(t, "Arm below 0 of a dead disk", d.Arm(n), api.ErrArg)
		if !d.Dead() {
			t.Error("a refused Arm made the disk live")
		}
	}
}

func TestD5ArmOfADeadDisk(t *testing.T) {
	for _, n := range []int{0, 1, 2, math.MaxInt} {
		d := dead(t, api.Write{Sector: 1, Bytes: text(1)})
		answers(t, "Arm of a dead disk", d.Arm(n), api.ErrDead)
		answers(t, "Flush", d.Flush(), api.ErrDead)
		if !d.Dead() || d.Pending() != 1 {
			t.Fatalf("behind Arm(%d): Dead = %v, Pending = %d", n, d.Dead(), d.Pending())
		}
		answers(t, "Crash", d.Crash(nil), api.OK)
		for range 4 {
			answers(t, "Flush behind a crash", d.Flush(), api.OK)
		}
	}
}

func TestD5TheLaterArmCounts(t *testing.T) {
	for _, first := range []int{1, 2, 3, 9} {
		for second := range 6 {
			d := made(t, 128)
			answers(t, "Arm", d.Arm(first), api.OK)
			ahead := 0
			for ; ahead < first-1 && ahead < 2; ahead++ {
				answers(t, "Flush", d.Flush(), api.OK)
			}
			answers(t, "Arm", d.Arm(second), api.OK)
			done := play(d, script())
			want := second - 1
			if second == 0 {
				want = len(script())
			}
			if done != want {
				t.Errorf("Arm(%d), %d acts, Arm(%d): %d acts, want %d", first, ahead, second, done, want)
			}
		}
	}
}

func TestD5OtherCallsDoNotCount(t *testing.T) {
	d := made(t, 128)
	answers(t, "Arm", d.Arm(2), api.OK)
	for range 5 {
		answers(t, "Write nowhere", d.Write(128, fill(1)), api.ErrDiskSector)
		answers(t, "Write below", d.Write(-1, fill(1)), api.ErrDiskSector)
		answers(t, "Write of 255", d.Write(0, fill(1)[1:]), api.ErrDiskBytes)
		answers(t, "Write of 257", d.Write(0, fill(1)+"x"), api.ErrDiskBytes)
		answers(t, "Crash of none such", d.Crash([]int{0}), api.ErrDiskPick)
		same(t, "armed", d, newModel(blank(128)))
	}
	wrote(t, d, api.Write{Sector: 0, Bytes: fill(1)})
	answers(t, "Write nowhere", d.Write(128, fill(1)), api.ErrDiskSector)
	answers(t, "Write of 255", d.Write(0, fill(1)[1:]), api.ErrDiskBytes)
	reads(t, d, 0, fill(1))
	if d.Dead() {
		t.Fatal("dead ahead of the act")
	}
	answers(t, "the second act", d.Write(1, fill(1)), api.ErrDead)
	if !d.Dead() {
		t.Error("it did not die")
	}
}

func TestD5DeadTellsWhetherItIsDead(t *testing.T) {
	d := made(t, 128)
	for range 3 {
		answers(t, "Arm", d.Arm(1), api.OK)
		if d.Dead() {
			t.Fatal("an armed disk is dead")
		}
		answers(t, "Flush", d.Flush(), api.ErrDead)
		if !d.Dead() || !d.Dead() {
			t.Fatal("it lives behind its death")
		}
		answers(t, "Crash", d.Crash(nil), api.OK)
		if d.Dead() {
			t.Fatal("it is dead behind a crash")
		}
	}
}

// three are the writes of the chapter's example.
func three(t *testing.T) *disk.Disk {
	t.Helper()
	d := made(t, 128)
	wrote(t, d, api.Write{Sector: 1, Bytes: fill('a')}, api.Write{Sector: 2, Bytes: fill('b')}, api.Write{Sector: 1, Bytes: fill('c')})
	return d
}

func TestD6TheExamples(t *testing.T) {
	d := three(t)
	reads(t, d, 1, fill('c'))
	if d.Pending() != 3 {
		t.Fatalf("Pending = %d, want 3", d.Pending())
	}
	answers(t, "Crash([3])", d.Crash([]int{3}), api.ErrDiskPick)
	reads(t, d, 1, fill('c'))
	if d.Pending() != 3 {
		t.Fatalf("Pending = %d, want 3", d.Pending())
	}
	answers(t, "Crash([1, 0])", d.Crash([]int{1, 0}), api.OK)
	reads(t, d, 1, fill('a'))
	reads(t, d, 2, fill('b'))

	d = made(t, 128)
	answers(t, "Arm(2)", d.Arm(2), api.OK)
	answers(t, "Write", d.Write(0, fill('a')), api.OK)
	answers(t, "Flush", d.Flush(), api.ErrDead)
	if !d.Dead() {
		t.Fatal("it lives")
	}
	if s, e := d.Read(0); s != "" || e != api.ErrDead {
		t.Fatalf("Read(0) = %.8q, %d", s, e)
	}
	answers(t, "Crash([0])", d.Crash([]int{0}), api.OK)
	reads(t, d, 0, fill('a'))
	if l := d.Trace(); !slices.Equal(l, []api.Act{{Kind: api.ActWrite, Sector: 0}}) {
		t.Errorf("Trace = %v, want one write of sector 0", l)
	}
}

func TestD6NoneOfTwoWritesToOneSector(t *testing.T) {
	d := three(t)
	answers(t, "Crash", d.Crash(nil), api.OK)
	m := newModel(blank(128))
	m.acts = []api.Act{{Kind: 1, Sector: 1}, {Kind: 1, Sector: 2}, {Kind: 1, Sector: 1}}
	same(t, "Crash(nil)", d, m)
	d = three(t)
	answers(t, "Crash", d.Crash([]int{}), api.OK)
	same(t, "Crash([])", d, m)
}

// namings are a choice of writes in several orders, and with some named more than once.
func namings(choice []int) [][]int {
	back := slices.Clone(choice)
	slices.Reverse(back)
	turned := slices.Clone(choice)
	if len(turned) > 1 {
		turned = append(turned[1:], turned[0])
	}
	return [][]int{choice, back, turned, append(slices.Clone(back), choice...), slices.Repeat(turned, 3)}
}

func TestD6EachChoiceInEachOrder(t *testing.T) {
	l := []int{3, 127, 3, 0, 3, 127}
	for bits := range 1 << len(l) {
		var choice []int
		for n := range l {
			if bits>>n&1 == 1 {
				choice = append(choice, n)
			}
		}
		for _, keep := range namings(choice) {
			was := slices.Clone(keep)
			for _, dies := range []bool{false, true} {
				d, m := made(t, 128), playModel(l, len(l))
				play(d, l)
				if dies {
					answers(t, "Arm", d.Arm(1), api.OK)
					answers(t, "Flush", d.Flush(), api.ErrDead)
				}
				answers(t, "Crash", d.Crash(keep), m.crash(keep))
				same(t, "behind a crash", d, m)
			}
			if !slices.Equal(keep, was) {
				t.Fatal("a Crash wrote into its list")
			}
		}
	}
}

func TestD6RefusesNumbersThatAreNotPending(t *testing.T) {
	wrongs := [][]int{{3}, {-1}, {0, 3}, {3, 0}, {0, 1, 2, 3}, {-1, 0}, {2, -1}, {4}, {256}, {1 << 32}, {math.MaxInt}, {math.MinInt}, {0, 0, math.MinInt + 1}}
	for _, keep := range wrongs {
		d, m := three(t), newModel(blank(128))
		m.write(1, fill('a'))
		m.write(2, fill('b'))
		m.write(1, fill('c'))
		answers(t, "Crash", d.Crash(keep), api.ErrDiskPick)
		same(t, "alive", d, m)
		answers(t, "Arm", d.Arm(1), m.arm(1))
		answers(t, "Crash of an armed disk", d.Crash(keep), api.ErrDiskPick)
		same(t, "armed", d, m)
		answers(t, "Flush, armed as before", d.Flush(), api.ErrDead)
		m.flush()
		answers(t, "Crash of a dead disk", d.Crash(keep), api.ErrDiskPick)
		same(t, "dead", d, m)
	}
}

func TestD6TheLastPendingAndOneMore(t *testing.T) {
	for _, many := range []int{0, 1, 2, 17, 300} {
		d := made(t, 128)
		for n := range many {
			wrote(t, d, api.Write{Sector: n % 128, Bytes: text(n)})
		}
		answers(t, "Crash of Pending", d.Crash([]int{many}), api.ErrDiskPick)
		if d.Pending() != many {
			t.Fatalf("Pending = %d, want %d", d.Pending(), many)
		}
		if many == 0 {
			answers(t, "Crash of -1 where nothing is pending", d.Crash([]int{-1}), api.ErrDiskPick)
			answers(t, "Crash of none where nothing is pending", d.Crash(nil), api.OK)
			continue
		}
		answers(t, "Crash of Pending less 1", d.Crash([]int{many - 1}), api.OK)
		want := blank(128)
		want[(many-1)%128] = text(many - 1)
		if !slices.Equal(d.Image(), want) || d.Pending() != 0 {
			t.Errorf("of %d pending writes another one lasts than the last", many)
		}
	}
}

func TestD6NumbersCountFromTheLastFlushOrCrash(t *testing.T) {
	d := three(t)
	answers(t, "Flush", d.Flush(), api.OK)
	answers(t, "Crash of what is flushed", d.Crash([]int{0}), api.ErrDiskPick)
	wrote(t, d, api.Write{Sector: 5, Bytes: text(1)}, api.Write{Sector: 6, Bytes: text(2)})
	answers(t, "Crash", d.Crash([]int{1}), api.OK)
	answers(t, "Crash of what has crashed", d.Crash([]int{0}), api.ErrDiskPick)
	wrote(t, d, api.Write{Sector: 7, Bytes: text(3)})
	answers(t, "Crash", d.Crash([]int{0}), api.OK)
	want := blank(128)
	want[1], want[2], want[6], want[7] = fill('c'), fill('b'), text(2), text(3)
	if !slices.Equal(d.Image(), want) {
		t.Error("other writes last than those that were named")
	}
	for i := range want {
		reads(t, d, i, want[i])
	}
}

func TestD6TheDiskIsArmedNoMore(t *testing.T) {
	for _, n := range []int{1, 2, 3} {
		d := three(t)
		answers(t, "Arm", d.Arm(n), api.OK)
		answers(t, "Crash of an armed disk", d.Crash([]int{1}), api.OK)
		for range 5 {
			answers(t, "Flush", d.Flush(), api.OK)
			wrote(t, d, api.Write{Sector: 0, Bytes: fill(1)})
		}
	}
}

func TestD6ADiskGoesOnBehindACrash(t *testing.T) {
	d := dead(t, api.Write{Sector: 3, Bytes: text(1)}, api.Write{Sector: 3, Bytes: text(2)})
	answers(t, "Crash", d.Crash([]int{0}), api.OK)
	reads(t, d, 3, text(1))
	wrote(t, d, api.Write{Sector: 4, Bytes: text(3)})
	reads(t, d, 4, text(3))
	answers(t, "Flush", d.Flush(), api.OK)
	answers(t, "Arm", d.Arm(1), api.OK)
	answers(t, "Write", d.Write(5, text(4)), api.ErrDead)
	answers(t, "Crash", d.Crash(nil), api.OK)
	reads(t, d, 3, text(1))
	reads(t, d, 4, text(3))
	reads(t, d, 5, fill(0))
}

func TestR2CrashKeepsNotItsList(t *testing.T) {
	d := three(t)
	room := []int{2, 0, 2, 77, 78, 79}
	keep := room[:3]
	answers(t, "Crash", d.Crash(keep), api.OK)
	if !slices.Equal(room, []int{2, 0, 2, 77, 78, 79}) {
		t.Errorf("a Crash wrote into its list or its spare room: %v", room)
	}
	keep[0] = 1
	wrote(t, d, api.Write{Sector: 9, Bytes: text(9)})
	reads(t, d, 1, fill('c'))
	reads(t, d, 2, fill(0))
}

func TestD8WhatWasFlushedIsThereBehindAnyCrash(t *testing.T) {
	flushed := func() *disk.Disk {
		d := three(t)
		answers(t, "Flush", d.Flush(), api.OK)
		wrote(t, d, api.Write{Sector: 2, Bytes: text(5)}, api.Write{Sector: 6, Bytes: text(6)})
		return d
	}
	for _, keep := range [][]int{nil, {0}, {1}, {0, 1}} {
		d := flushed()
		answers(t, "Crash", d.Crash(keep), api.OK)
		reads(t, d, 1, fill('c'))
		two := fill('b')
		if slices.Contains(keep, 0) {
			two = text(5)
		}
		reads(t, d, 2, two)
	}
}

func TestD8ACrashOfAllLosesNone(t *testing.T) {
	for _, dies := range []bool{false, true} {
		d, l := made(t, 128), []int{9, 8, 9, 127, 0, 9, 0}
		play(d, l)
		want := make([]string, 128)
		for i := range want {
			want[i], _ = d.Read(i)
		}
		if dies {
			answers(t, "Arm", d.Arm(1), api.OK)
			answers(t, "Write", d.Write(3, text(99)), api.ErrDead)
		}
		answers(t, "Crash", d.Crash([]int{6, 5, 4, 3, 2, 1, 0}), api.OK)
		for i := range want {
			reads(t, d, i, want[i])
		}
		if !slices.Equal(d.Image(), want) {
			t.Error("what all writes made does not last")
		}
	}
}

func TestD8ASectorIsOneOfWhatItMayBe(t *testing.T) {
	l := []int{1, 1, 1, 2}
	may := []string{fill(0), text(0), text(1), text(2)}
	seen := map[string]int{}
	for bits := range 16 {
		d := made(t, 128)
		play(d, l)
		var keep []int
		for n := range 4 {
			if bits>>n&1 == 1 {
				keep = append(keep, n)
			}
		}
		answers(t, "Crash", d.Crash(keep), api.OK)
		s, _ := d.Read(1)
		if !slices.Contains(may, s) {
			t.Errorf("Crash(%v): sector 1 is %.8q, which it never was", keep, s)
		}
		seen[s]++
	}
	if len(seen) != len(may) {
		t.Errorf("of %d that may be %d were seen", len(may), len(seen))
	}
}

func TestD8LoadOfAnImageReadsAsBehindACrashOfNone(t *testing.T) {
	for _, dies := range []bool{false, true} {
		d := loaded(t, image(200))
		wrote(t, d, api.Write{Sector: 0, Bytes: text(1)}, api.Write{Sector: 199, Bytes: text(2)})
		answers(t, "Flush", d.Flush(), api.OK)
		wrote(t, d, api.Write{Sector: 0, Bytes: text(3)}, api.Write{Sector: 7, Bytes: text(4)})
		if dies {
			answers(t, "Arm", d.Arm(1), api.OK)
			answers(t, "Flush", d.Flush(), api.ErrDead)
		}
		again := loaded(t, d.Image())
		answers(t, "Crash", d.Crash(nil), api.OK)
		for i := range 200 {
			want, _ := d.Read(i)
			reads(t, again, i, want)
		}
		reads(t, again, 0, text(1))
		// The two have no part in common.
		wrote(t, again, api.Write{Sector: 0, Bytes: text(8)})
		answers(t, "Flush", again.Flush(), api.OK)
		reads(t, d, 0, text(1))
		wrote(t, d, api.Write{Sector: 199, Bytes: text(9)})
		answers(t, "Flush", d.Flush(), api.OK)
		reads(t, again, 199, text(2))
	}
}

func TestR2TwoDisksInTurns(t *testing.T) {
	a, b := made(t, 128), made(t, 128)
	wrote(t, a, api.Write{Sector: 1, Bytes: text(1)})
	wrote(t, b, api.Write{Sector: 1, Bytes: text(2)}, api.Write{Sector: 2, Bytes: text(3)})
	reads(t, a, 1, text(1))
	answers(t, "Arm", a.Arm(1), api.OK)
	answers(t, "Flush of the other", b.Flush(), api.OK)
	answers(t, "Flush", a.Flush(), api.ErrDead)
	if b.Dead() || a.Pending() != 1 || b.Pending() != 0 {
		t.Fatalf("Dead = %v, Pending = %d and %d", b.Dead(), a.Pending(), b.Pending())
	}
	reads(t, b, 1, text(2))
	answers(t, "Crash", a.Crash(nil), api.OK)
	reads(t, a, 1, fill(0))
	reads(t, a, 2, fill(0))
	reads(t, b, 2, text(3))
	if l := a.Trace(); !slices.Equal(l, []api.Act{{Kind: 1, Sector: 1}}) {
		t.Errorf("Trace = %v", l)
	}
	if l := b.Trace(); !slices.Equal(l, []api.Act{{Kind: 1, Sector: 1}, {Kind: 1, Sector: 2}, {Kind: 2}}) {
		t.Errorf("Trace of the other = %v", l)
	}
}
