package journal_test

import (
	"testing"

	"strongbox/api"
	"strongbox/disk"
	"strongbox/journal"
)

func TestJ1FormatLaysAClearHeadOfNumber0(t *testing.T) {
	for _, n := range []int{128, 129, 1024} {
		for _, head := range []string{fill(0), text(5), clearHead(7), setHead(7, upTo16(19, 20)...)} {
			l := image(n, head)
			d := loaded(t, l)
			answers(t, "Format", journal.Format(d), api.OK)
			did(t, d, 0, formatSteps())
			stands(t, d, plainly(l).do(formatSteps()))
			numbers(t, opened(t, d, false), 1)
		}
	}
}

func TestJ1FormatByItsBytes(t *testing.T) {
	d, _ := disk.New(128)
	answers(t, "Format", journal.Format(d), api.OK)
	head, _ := d.Read(1)
	if head[:10] != "SB\x02\x01\x00\x00\x00\x00\x00\x00" || head != clearHead(0) {
		t.Fatalf("the head is %q", head)
	}
}

func TestJ1FormatDiesAtEachAct(t *testing.T) {
	dies(t, image(128, text(5)), formatSteps(), func(d *disk.Disk, arm func()) api.Errno {
		arm()
		return journal.Format(d)
	})
}

func TestJ1ADeathInFormatLeavesTheHeadThatWasOrTheNewOne(t *testing.T) {
	for at := 1; at <= 2; at++ {
		for _, all := range []bool{false, true} {
			d := loaded(t, image(128, clearHead(7)))
			d.Arm(at)
			answers(t, "Format", journal.Format(d), api.ErrDead)
			refused(t, d, api.ErrDead)
			next := 8
			if all {
				d.Crash(upTo(d.Pending()))
			} else {
				d.Crash(nil)
			}
			if all && at == 2 {
				next = 1
			}
			numbers(t, opened(t, d, false), next)
		}
	}
}

func TestJ1FormatOfADeadDisk(t *testing.T) {
	l := image(128, text(5))
	d := loaded(t, l)
	d.Arm(1)
	d.Flush()
	for range 3 {
		answers(t, "Format", journal.Format(d), api.ErrDead)
		did(t, d, 0, nil)
		stands(t, d, plainly(l))
	}
	d.Crash(nil)
	answers(t, "Format of a disk that lives again", journal.Format(d), api.OK)
	stands(t, d, plainly(l).do(formatSteps()))
}

func TestR1ADiskThatIsNoneIsDead(t *testing.T) {
	answers(t, "Format", journal.Format(nil), api.ErrDead)
	refused(t, nil, api.ErrDead)
}
