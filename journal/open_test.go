package journal_test

import (
	"slices"
	"testing"

	"strongbox/api"
	"strongbox/disk"
	"strongbox/journal"
)

// sixteen are 16 targets that are all right on a disk of 128 sectors, not rising, with the edges among them.
func sixteen() []int {
	return []int{127, 19, 40, 39, 41, 100, 20, 126, 60, 61, 62, 63, 64, 25, 24, 23}
}

// rows are targets of heads that are set.
func rows() [][]int {
	return [][]int{
		sixteen(),
		upTo16(),
		upTo16(19),
		upTo16(127),
		upTo16(20, 18, 21),
		upTo16(18, 18, 18, 22),
		slices.Concat(slices.Repeat([]int{18}, 15), []int{19}),
		{18, 30, 18, 31, 18, 32, 18, 33, 18, 34, 18, 35, 18, 36, 18, 37},
	}
}

func TestJ2OpenOfAClearHeadDoesNothing(t *testing.T) {
	for _, n := range []int{128, 1024} {
		for _, number := range []int{0, 1, 255, 256, 65536, 4294967294, 4294967295} {
			l := image(n, clearHead(number))
			d := loaded(t, l)
			numbers(t, opened(t, d, false), (number+1)%4294967296)
			did(t, d, 0, nil)
			stands(t, d, plainly(l))
		}
	}
}

func TestJ2OpenOfASetHeadDoesItOnceMore(t *testing.T) {
	for _, targets := range rows() {
		for _, number := range []int{0, 1, 258, 4294967294, 4294967295} {
			l := image(128, setHead(number, targets...))
			d := loaded(t, l)
			numbers(t, opened(t, d, true), (number+1)%4294967296)
			steps := redoSteps(number, targets, l[2:18])
			did(t, d, 0, steps)
			stands(t, d, plainly(l).do(steps))
			numbers(t, opened(t, d, false), (number+1)%4294967296)
			did(t, d, 0, steps)
		}
	}
}

func TestJ2OpenDiesAtEachAct(t *testing.T) {
	for _, targets := range rows() {
		l := image(128, setHead(9, targets...))
		dies(t, l, redoSteps(9, targets, l[2:18]), func(d *disk.Disk, arm func()) api.Errno {
			arm()
			j, again, e := journal.Open(d)
			if (j != nil) != (e == api.OK) || again != (e == api.OK) {
				t.Fatalf("Open = %v, %v, %d", j, again, e)
			}
			return e
		})
	}
}

func TestJ2OpenOfADeadDisk(t *testing.T) {
	for _, head := range []string{clearHead(3), setHead(3, sixteen()...), fill(0), page(3, 0, "\x00")} {
		d := loaded(t, image(128, head))
		d.Arm(1)
		d.Flush()
		for range 2 {
			refused(t, d, api.ErrDead)
		}
		did(t, d, 0, nil)
	}
}

func TestJ2OpenOfAClearHeadIsNoAct(t *testing.T) {
	d := loaded(t, image(128, clearHead(3)))
	d.Arm(1)
	opened(t, d, false)
	if d.Dead() {
		t.Fatal("it did an act")
	}
	answers(t, "Flush", d.Flush(), api.ErrDead)
}

func TestJ2OpenReadsWhatWasWrittenLast(t *testing.T) {
	d := loaded(t, image(128, fill(0)))
	d.Write(1, setHead(5, upTo16(30)...))
	d.Write(2, text(1))
	opened(t, d, true)
	if s, _ := d.Read(30); s != text(1) {
		t.Fatal("the record is not that which was written last")
	}
	d.Write(1, clearHead(8))
	numbers(t, opened(t, d, false), 9)
}

// noHead holds an Open of a disk with this head, which is none, against what it must be.
func noHead(t *testing.T, sectors int, head string) {
	t.Helper()
	l := image(sectors, head)
	d := loaded(t, l)
	refused(t, d, api.ErrJournalForm)
	did(t, d, 0, nil)
	stands(t, d, plainly(l))
}

func TestJ2OpenRefusesOtherPages(t *testing.T) {
	for _, kind := range []int{0, 1, 3, 4, 5, 6, 7, 130, 255} {
		noHead(t, 128, page(kind, 7, "\x00"))
		noHead(t, 128, page(kind, 7, body(1, sixteen()...)))
	}
	for _, s := range []string{fill(0), fill(255), text(4)} {
		noHead(t, 128, s)
	}
}

func TestJ2OpenRefusesWrongChecks(t *testing.T) {
	for _, head := range []string{clearHead(7), setHead(7, sixteen()...)} {
		for i := range 256 {
			for _, bit := range []byte{1, 128} {
				b := []byte(head)
				b[i] ^= bit
				noHead(t, 128, string(b))
			}
		}
	}
}

func TestJ2OpenRefusesOtherBodies(t *testing.T) {
	right := body(1, sixteen()...)
	rest := right[1:]
	bodies := []string{"", "\x01", "\x02", "\xff", "\x00\x00", "\x00\x01", "\x01\x00", "\x00" + rest, "\x02" + rest, "\x81" + rest, rest, right[:64], right[:61], right + "\x00", right + "\x00\x00\x00\x12", right + "\x00\x00\x00\x63", "\x00" + right}
	for n := range 245 {
		if n != 1 {
			bodies = append(bodies, fill(0)[:n])
		}
		if n != 65 {
			bodies = append(bodies, (body(1, upTo16()...) + body(1, upTo16()...)[1:] + fill(0))[:n], (right + fill(0))[:n])
		}
	}
	for _, b := range bodies {
		noHead(t, 128, page(2, 7, b))
	}
}

func TestJ2OpenRefusesSectorsThatAreNotFree(t *testing.T) {
	for _, size := range []int{128, 129, 300, 1024} {
		for _, bad := range []int{0, 1, 2, 10, 16, 17, size, size + 1, size + 256, 1024, 65536 + 19, 16777216 + 19, 2147483648 + 19, 4294967295} {
			for _, at := range []int{0, 1, 8, 15} {
				targets := sixteen()
				targets[at] = bad
				noHeadUnlessFree(t, size, targets, bad)
				targets = upTo16()
				targets[at] = bad
				noHeadUnlessFree(t, size, targets, bad)
			}
		}
	}
}

// noHeadUnlessFree looks at a head whose target in question is free on greater disks.
func noHeadUnlessFree(t *testing.T, size int, targets []int, bad int) {
	t.Helper()
	if bad < 19 || bad >= size {
		noHead(t, size, setHead(7, targets...))
	}
}

func TestJ2OpenTakesTheLastSectorOfEachSize(t *testing.T) {
	for _, size := range []int{128, 129, 300, 1023, 1024} {
		d := loaded(t, image(size, setHead(7, upTo16(size-1, 19)...)))
		opened(t, d, true)
		noHead(t, size, setHead(7, upTo16(size, 19)...))
	}
}

func TestJ2OpenRefusesAFreeSectorTwice(t *testing.T) {
	for i := range 16 {
		for k := range i {
			targets := sixteen()
			targets[i] = targets[k]
			noHead(t, 128, setHead(7, targets...))
			targets = upTo16()
			targets[i], targets[k] = 19, 19
			noHead(t, 128, setHead(7, targets...))
		}
	}
}

func TestR2OpensHangOnTheirDiskAlone(t *testing.T) {
	a := loaded(t, image(128, clearHead(4)))
	b := loaded(t, image(128, setHead(9, sixteen()...)))
	c := loaded(t, image(128, fill(0)))
	ja := opened(t, a, false)
	jb := opened(t, b, true)
	refused(t, c, api.ErrJournalForm)
	numbers(t, ja, 5)
	numbers(t, jb, 10)
	answers(t, "Format", journal.Format(c), api.OK)
	numbers(t, opened(t, c, false), 1)
	numbers(t, ja, 5)
	did(t, a, 0, nil)
}
