package pool_test

import (
	"math"
	"math/rand"
	"slices"
	"testing"

	"strongbox/api"
	"strongbox/disk"
	"strongbox/journal"
	"strongbox/pack"
	"strongbox/pool"
)

// notKept are numbers of sectors that no pool keeps at hand.
func notKept() []int { return []int{-1, 65, -2, 66, 128, 256, 256 + 5, math.MaxInt, math.MinInt} }

// refused holds an Open that must not be OK against what it must answer.
func refused(t *testing.T, d *disk.Disk, keep int, want api.Errno) {
	t.Helper()
	if p, e := pool.Open(d, keep); p != nil || e != want {
		t.Fatalf("Open with %d = %v, %d, want nil, %d", keep, p, e, want)
	}
}

// page is a page as a sector.
func page(t *testing.T, kind int, body string) string {
	t.Helper()
	s, e := pack.MakePage(api.Page{Kind: kind, Number: 3, Body: body})
	answers(t, "MakePage", e, api.OK)
	return s
}

// noHeads are heads of a journal that are neither clear nor set.
func noHeads(t *testing.T) []string {
	t.Helper()
	return []string{fill(0), fill(255), text(1), page(t, 3, "\x00"), page(t, 2, ""), page(t, 2, "\x01"), page(t, 2, "\x02"), page(t, 2, "\x00\x00"), page(t, 2, "\x01"+fill(0)[:64])}
}

// broken is an image with a set head: a commit of these sectors was broken off when its mark lasted.
func broken(t *testing.T, sectors ...int) []string {
	t.Helper()
	d, p := clean(t, 0)
	begun(t, p, sectors...)
	answers(t, "Arm", d.Arm(20), api.OK)
	answers(t, "Commit", p.Commit(), api.ErrDead)
	answers(t, "Crash", d.Crash(nil), api.OK)
	return d.Image()
}

func Test6_1OpenTakesKeepOf0To64(t *testing.T) {
	for _, n := range []int{128, 129, 1023, 1024} {
		l := image(n)
		for keep := range 65 {
			d := loaded(t, l)
			p := opened(t, d, keep)
			if p.Size() != n {
				t.Fatalf("Size = %d, want %d", p.Size(), n)
			}
			counts(t, p, 0, 0, 0)
			dirty(t, p)
			answers(t, "Commit", p.Commit(), api.ErrPoolNone)
			answers(t, "Abort", p.Abort(), api.ErrPoolNone)
			did(t, d, 0, nil)
		}
	}
}

func Test6_1NothingIsAtHandBehindOpen(t *testing.T) {
	d := loaded(t, image(128))
	holds(t, 3, func() *pool.Pool { return opened(t, d, 3) })
}

func Test6_1OpenRefusesKeepAheadOfAll(t *testing.T) {
	dead := loaded(t, image(128))
	kill(t, dead)
	for _, keep := range notKept() {
		refused(t, nil, keep, api.ErrArg)
		refused(t, dead, keep, api.ErrArg)
		refused(t, loaded(t, image(128)), keep, api.ErrArg)
		for _, head := range noHeads(t) {
			l := image(128)
			l[1] = head
			refused(t, loaded(t, l), keep, api.ErrArg)
		}
		d := loaded(t, broken(t, 19))
		refused(t, d, keep, api.ErrArg)
		did(t, d, 0, nil)
	}
}

func Test6_1OpenOfNoDisk(t *testing.T) {
	for _, keep := range []int{0, 1, 64} {
		refused(t, nil, keep, api.ErrDead)
	}
}

func Test6_1OpenOfADeadDisk(t *testing.T) {
	images := [][]string{image(128), broken(t, 19, 20)}
	for _, head := range noHeads(t) {
		l := image(128)
		l[1] = head
		images = append(images, l)
	}
	for _, l := range images {
		d := loaded(t, l)
		kill(t, d)
		for _, keep := range []int{0, 1, 64} {
			refused(t, d, keep, api.ErrDead)
		}
		did(t, d, 0, nil)
	}
}

func Test6_1OpenRefusesHeadsThatAreNone(t *testing.T) {
	for _, head := range noHeads(t) {
		for _, keep := range []int{0, 1, 64} {
			l := image(128)
			l[1] = head
			d := loaded(t, l)
			refused(t, d, keep, api.ErrJournalForm)
			did(t, d, 0, nil)
			answers(t, "Format", journal.Format(d), api.OK)
			opened(t, d, keep)
		}
	}
}

func Test6_1OpenDoesOnceMoreWhatIsToBeDone(t *testing.T) {
	for _, sectors := range [][]int{nil, {19}, {127}, {19, 40, 127}, from(30, 16)} {
		for _, keep := range []int{0, 1, 64} {
			l := broken(t, sectors...)
			if l[127] != image(128)[127] {
				t.Fatal("the commit was not broken off")
			}
			d := loaded(t, l)
			p := opened(t, d, keep)
			did(t, d, 0, redoActs(sectors...))
			counts(t, p, 0, 0, 0)
			tellsFree(t, p, behind(image(128), sectors...))
			did(t, d, 0, redoActs(sectors...))
		}
	}
}

// behind is an image in which these sectors have their texts.
func behind(l []string, sectors ...int) []string {
	l = slices.Clone(l)
	for _, i := range sectors {
		l[i] = text(i)
	}
	return l
}

// tellsFree holds all free sectors that a pool reads against an image.
func tellsFree(t *testing.T, p *pool.Pool, want []string) {
	t.Helper()
	for i := 19; i < len(want); i++ {
		reads(t, p, i, want[i])
	}
}

func Test6_1OpenDiesAtEachAct(t *testing.T) {
	r := rand.New(rand.NewSource(1))
	for _, sectors := range [][]int{nil, {19, 127}, from(30, 16)} {
		l := broken(t, sectors...)
		for at := 1; at <= 19; at++ {
			for choice := range 7 {
				d := loaded(t, l)
				answers(t, "Arm", d.Arm(at), api.OK)
				refused(t, d, 4, api.ErrDead)
				did(t, d, 0, redoActs(sectors...)[:at-1])
				refused(t, d, 4, api.ErrDead)
				answers(t, "Crash", d.Crash(keeps(r, d.Pending())[choice]), api.OK)
				tellsFree(t, opened(t, d, 4), behind(image(128), sectors...))
			}
		}
		d := loaded(t, l)
		answers(t, "Arm", d.Arm(20), api.OK)
		opened(t, d, 4)
	}
}

func Test6_1OpenOfAClearHeadDoesNoAct(t *testing.T) {
	d := loaded(t, image(128))
	answers(t, "Arm", d.Arm(1), api.OK)
	p := opened(t, d, 4)
	reads(t, p, 30, text(1000030))
	answers(t, "Flush", d.Flush(), api.ErrDead)
}

func Test6_1SizeOfALostPool(t *testing.T) {
	d, p := clean(t, 2)
	lose(t, d, p, 30)
	if p.Size() != 128 {
		t.Fatalf("Size = %d, want 128", p.Size())
	}
}

func Test6_1OpenBehindACrashOfADeadDisk(t *testing.T) {
	for choice := range 7 {
		d := loaded(t, broken(t, 40, 127))
		want := behind(image(128), 40, 127)
		for _, i := range []int{50, 51, 52, 53} {
			answers(t, "Write", d.Write(i, text(i)), api.OK)
		}
		kill(t, d)
		refused(t, d, 3, api.ErrDead)
		keep := keeps(rand.New(rand.NewSource(1)), d.Pending())[choice]
		answers(t, "Crash", d.Crash(keep), api.OK)
		for _, n := range keep {
			want[50+n] = text(50 + n)
		}
		tellsFree(t, opened(t, d, 3), want)
	}
}
