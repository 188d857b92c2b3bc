package journal_test

import (
	"math/rand"
	"slices"
	"testing"

	"strongbox/api"
	"strongbox/disk"
	"strongbox/journal"
)

// keeps are choices among so many pending writes: none, all, the first ones, the last ones, some by chance.
func keeps(r *rand.Rand, pending int) [][]int {
	all := upTo(pending)
	if pending == 0 {
		return [][]int{all}
	}
	half := r.Intn(pending + 1)
	return [][]int{{}, all, all[:half], all[half:], {r.Intn(pending)}, picks(r, pending), picks(r, pending)}
}

// after is an image with a list written into it.
func after(l []string, writes []api.Write) []string {
	l = slices.Clone(l)
	for _, w := range writes {
		l[w.Sector] = w.Bytes
	}
	return l
}

// broken is an image behind a commit in which the disk died at this act and which left this of what was pending.
func broken(t *testing.T, from []string, l []api.Write, at int, choice int, r *rand.Rand) []string {
	t.Helper()
	d := loaded(t, from)
	j := opened(t, d, false)
	d.Arm(at)
	answers(t, "Commit", j.Commit(l), api.ErrDead)
	k := keeps(r, d.Pending())
	answers(t, "Crash", d.Crash(k[choice%len(k)]), api.OK)
	return d.Image()
}

// freeAre tells whether the free sectors are those of an image.
func freeAre(d *disk.Disk, l []string) bool { return slices.Equal(d.Image()[19:], l[19:]) }

// settled looks at a disk behind a commit that was broken off at this act and an Open that is OK.
func settled(t *testing.T, d *disk.Disk, from, to []string, at int, again bool) {
	t.Helper()
	was, is := freeAre(d, from), freeAre(d, to)
	if !was && !is {
		t.Fatalf("broken at %d: neither whole nor undone", at)
	}
	if (again || at > 19) && !is {
		t.Fatalf("broken at %d: not done, Open told %v", at, again)
	}
	if at < 19 && (again || !was) {
		t.Fatalf("broken at %d: done, Open told %v", at, again)
	}
	if d.Pending() != 0 {
		t.Fatalf("broken at %d: %d writes do not last", at, d.Pending())
	}
	j := opened(t, d, false)
	answers(t, "Commit behind it", j.Commit(writes(19, 127)), api.OK)
}

func TestJ5ABrokenCommitIsWholeOrUndone(t *testing.T) {
	r := rand.New(rand.NewSource(1))
	from := image(128, clearHead(6))
	for _, l := range lists() {
		to := after(from, l)
		for at := 1; at <= 38; at++ {
			for choice := range 7 {
				d := loaded(t, broken(t, from, l, at, choice, r))
				_, again, e := journal.Open(d)
				answers(t, "Open", e, api.OK)
				settled(t, d, from, to, at, again)
			}
		}
	}
}

func TestJ5ABrokenCommitIsWholeOrUndoneWhicheverOneWriteStays(t *testing.T) {
	from := image(128, clearHead(6))
	l := writes(sixteen()...)
	for at := 1; at <= 38; at++ {
		for n := range 16 {
			for _, but := range []bool{false, true} {
				d := loaded(t, from)
				j := opened(t, d, false)
				d.Arm(at)
				answers(t, "Commit", j.Commit(l), api.ErrDead)
				if n >= d.Pending() {
					continue
				}
				keep := []int{n}
				if but {
					keep = slices.Delete(upTo(d.Pending()), n, n+1)
				}
				d.Crash(keep)
				_, again, e := journal.Open(d)
				answers(t, "Open", e, api.OK)
				settled(t, d, from, after(from, l), at, again)
			}
		}
	}
}

func TestJ5ASecondDeathInTheOpenBehind(t *testing.T) {
	r := rand.New(rand.NewSource(2))
	from := image(128, clearHead(6))
	for _, l := range [][]api.Write{nil, writes(100, 19), writes(sixteen()...)} {
		to := after(from, l)
		for at := 1; at <= 38; at++ {
			for choice := range 3 {
				left := broken(t, from, l, at, choice, r)
				for second := 1; second <= 19; second++ {
					if !diesAgain(t, left, second, r, func(d *disk.Disk, again bool) {
						settled(t, d, from, to, at, again)
					}) {
						break
					}
				}
			}
		}
	}
}

// diesAgain opens disks of an image which die at this act, and opens them again; false, if that Open does no act.
func diesAgain(t *testing.T, left []string, second int, r *rand.Rand, look func(*disk.Disk, bool)) bool {
	t.Helper()
	for choice := range 4 {
		d := loaded(t, left)
		d.Arm(second)
		if _, again, e := journal.Open(d); e == api.OK {
			if again {
				t.Fatalf("an Open that should have died at %d is OK", second)
			}
			d.Arm(0)
			look(d, again)
			return false
		}
		k := keeps(r, d.Pending())
		d.Crash(k[choice%len(k)])
		_, again, e := journal.Open(d)
		answers(t, "Open", e, api.OK)
		look(d, again)
	}
	return true
}

func TestJ5ManyDeathsOneBehindTheOther(t *testing.T) {
	for seed := range int64(1500) {
		r := rand.New(rand.NewSource(seed))
		from := image(128, clearHead(6))
		l := lists()[r.Intn(len(lists()))]
		at := 1 + r.Intn(38)
		d := loaded(t, broken(t, from, l, at, r.Intn(7), r))
		for {
			d.Arm(r.Intn(22))
			_, again, e := journal.Open(d)
			if e == api.OK {
				d.Arm(0)
				settled(t, d, from, after(from, l), at, again)
				break
			}
			answers(t, "Open", e, api.ErrDead)
			d.Crash(picks(r, d.Pending()))
		}
	}
}

func TestJ5ACommitThatIsOKLasts(t *testing.T) {
	for _, l := range lists() {
		d, j := clean(t, 128, 6)
		from := d.Image()
		answers(t, "Commit", j.Commit(l), api.OK)
		d.Crash(nil)
		numbers(t, opened(t, d, false), 8)
		settled(t, d, from, after(from, l), 39, false)
	}
}

func TestJ2Example2(t *testing.T) {
	l := writes(30, 31)
	for at, want := range map[int]bool{18: false, 19: true} {
		d, j := clean(t, 128, 0)
		from := d.Image()
		d.Arm(at)
		answers(t, "Commit", j.Commit(l), api.ErrDead)
		d.Crash(upTo(at - 18))
		opened(t, d, want)
		if freeAre(d, from) == want || freeAre(d, after(from, l)) != want {
			t.Fatalf("dying at the act %d: not what the example says", at)
		}
	}
}

func TestJ3Examples1And3(t *testing.T) {
	d, _ := disk.New(128)
	answers(t, "Format", journal.Format(d), api.OK)
	j := opened(t, d, false)
	numbers(t, j, 1)
	answers(t, "Commit of sector 18", j.Commit(writes(18)), api.ErrJournalPlace)
	answers(t, "Commit of sector 19 twice", j.Commit([]api.Write{{Sector: 19, Bytes: text(1)[1:]}, {Sector: 19, Bytes: text(1)}}), api.ErrJournalTwice)
	d.Write(18, text(9))
	from := len(d.Trace())
	answers(t, "Commit of nothing", j.Commit(nil), api.OK)
	if n := len(d.Trace()) - from; n != 38 {
		t.Fatalf("%d acts", n)
	}
	if l := d.Image(); l[18] != fill(0) || l[1] != clearHead(1) {
		t.Fatal("the fill or the head is not what the example says")
	}
	numbers(t, j, 2)
}
