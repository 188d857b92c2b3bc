package journal_test

import (
	"math"
	"slices"
	"testing"

	"strongbox/api"
	"strongbox/disk"
	"strongbox/journal"
)

// lists are some that may be committed to a disk of 128 sectors.
func lists() [][]api.Write {
	return [][]api.Write{
		nil,
		{},
		writes(19),
		writes(127),
		writes(100, 19),
		writes(19, 100),
		writes(sixteen()[:15]...),
		writes(sixteen()...),
		{{Sector: 30, Bytes: fill(0)}, {Sector: 31, Bytes: text(3)}, {Sector: 29, Bytes: text(3)}},
		{{Sector: 30, Bytes: clearHead(0)}, {Sector: 31, Bytes: setHead(8, sixteen()...)}},
	}
}

func TestJ3CommitDoesTheseActs(t *testing.T) {
	for _, l := range lists() {
		d, j := clean(t, 128, 6)
		steps := commitSteps(7, l)
		if len(steps) != 38 {
			t.Fatalf("%d steps", len(steps))
		}
		answers(t, "Commit", j.Commit(l), api.OK)
		did(t, d, 0, steps)
		p := plainly(image(128, clearHead(6))).do(steps)
		stands(t, d, p)
		for i, w := range l {
			if p.lasting[w.Sector] != w.Bytes || p.lasting[2+i] != w.Bytes {
				t.Fatalf("sector %d is not as it was committed", w.Sector)
			}
		}
	}
}

func TestJ3CommitTakesEachDisksFreeSectors(t *testing.T) {
	for _, size := range []int{128, 129, 300, 1023, 1024} {
		d, j := clean(t, size, 0)
		l := writes(size-1, 19, size-2)
		answers(t, "Commit", j.Commit(l), api.OK)
		stands(t, d, plainly(image(size, clearHead(0))).do(commitSteps(1, l)))
	}
}

func TestJ3CommitDiesAtEachAct(t *testing.T) {
	for _, l := range lists() {
		dies(t, image(128, clearHead(6)), commitSteps(7, l), func(d *disk.Disk, arm func()) api.Errno {
			j := opened(t, d, false)
			arm()
			e := j.Commit(l)
			if e == api.OK {
				numbers(t, j, 8)
			} else {
				numbers(t, j, 7)
			}
			return e
		})
	}
}

func TestJ3CommitBehindOthers(t *testing.T) {
	d, j := clean(t, 128, 0)
	p := plainly(d.Image())
	from := 0
	for n, l := range slices.Concat(lists(), lists()) {
		steps := commitSteps(n+1, l)
		answers(t, "Commit", j.Commit(l), api.OK)
		did(t, d, from, steps)
		stands(t, d, p.do(steps))
		numbers(t, j, n+2)
		from += 38
	}
}

func TestJ3CommitFlushesWhatOthersWrote(t *testing.T) {
	d, j := clean(t, 128, 0)
	p := plainly(d.Image())
	d.Write(50, text(1))
	d.Write(2, text(2))
	answers(t, "Commit", j.Commit(nil), api.OK)
	stands(t, d, p.do([]step{{50, text(1)}, {2, text(2)}}).do(commitSteps(1, nil)))
}

// faulty is a list that has these faults, each at the place that is named, or none where that is below 0.
func faulty(n, place, twice, bytes int) []api.Write {
	l := writes(upTo(n)...)
	for i := range l {
		l[i].Sector += 30
	}
	if twice >= 0 {
		l[twice].Sector = 60
		l[(twice+n-1)%n].Sector = 60
	}
	if place >= 0 {
		l[place].Sector = 18
	}
	if bytes >= 0 {
		l[bytes].Bytes = l[bytes].Bytes[1:]
	}
	return l
}

// firstFault is what must be answered to a list with some faults.
func firstFault(n, place, twice, bytes int, dead bool) api.Errno {
	switch {
	case n > 16:
		return api.ErrJournalMany
	case place >= 0:
		return api.ErrJournalPlace
	case twice >= 0:
		return api.ErrJournalTwice
	case bytes >= 0:
		return api.ErrDiskBytes
	case dead:
		return api.ErrDead
	}
	return api.OK
}

// troubled is a journal whose disk lives, is dead, or lives again behind the journal's own ErrDead.
func troubled(t *testing.T, state int) (*disk.Disk, *journal.Journal) {
	t.Helper()
	d, j := clean(t, 128, 6)
	if state > 0 {
		d.Arm(1)
		d.Flush()
	}
	if state == 2 {
		answers(t, "Commit", j.Commit(nil), api.ErrDead)
		d.Crash(nil)
	}
	return d, j
}

func TestJ3CommitAnswersTheFirstOfSeveralErrors(t *testing.T) {
	for state := range 3 {
		for _, n := range []int{4, 16, 17, 18} {
			for _, place := range []int{-1, 0, n - 1} {
				for _, twice := range []int{-1, 2, n - 2} {
					for _, bytes := range []int{-1, 0, 1, n - 1} {
						d, j := troubled(t, state)
						want := firstFault(n, place, twice, bytes, state > 0)
						answers(t, "Commit", j.Commit(faulty(n, place, twice, bytes)), want)
						if want == api.OK {
							continue
						}
						did(t, d, 0, nil)
						stands(t, d, plainly(image(128, clearHead(6))))
						numbers(t, j, 7)
					}
				}
			}
		}
	}
}

func TestJ3CommitRefusesMoreThan16(t *testing.T) {
	d, j := clean(t, 128, 6)
	for _, n := range []int{17, 18, 32, 109, 5000} {
		l := slices.Repeat(writes(19, 20, 21, 22, 23), n)[:n]
		answers(t, "Commit of many", j.Commit(l), api.ErrJournalMany)
		answers(t, "Commit of many that are nothing", j.Commit(make([]api.Write, n)), api.ErrJournalMany)
	}
	did(t, d, 0, nil)
	answers(t, "Commit of 16", j.Commit(writes(sixteen()...)), api.OK)
}

func TestJ3CommitRefusesSectorsThatAreNotFree(t *testing.T) {
	for _, size := range []int{128, 129, 1024} {
		d, j := clean(t, size, 6)
		for _, bad := range []int{-1, -2, -19, -4294967277, math.MinInt, 0, 1, 2, 17, 18, size, size + 1, 4294967296 + 19, math.MaxInt} {
			for i := range 16 {
				l := writes(sixteen()...)
				l[i].Sector = bad
				answers(t, "Commit", j.Commit(l), api.ErrJournalPlace)
			}
			answers(t, "Commit of it twice", j.Commit(writes(bad, bad)), api.ErrJournalPlace)
		}
		did(t, d, 0, nil)
		stands(t, d, plainly(image(size, clearHead(6))))
		numbers(t, j, 7)
	}
}

func TestJ3CommitRefusesASectorTwice(t *testing.T) {
	d, j := clean(t, 128, 6)
	for i := range 16 {
		for k := range i {
			l := writes(sixteen()...)
			l[i].Sector = l[k].Sector
			answers(t, "Commit", j.Commit(l), api.ErrJournalTwice)
			l[i].Bytes = l[k].Bytes
			answers(t, "Commit of the same bytes", j.Commit(l), api.ErrJournalTwice)
		}
	}
	did(t, d, 0, nil)
	numbers(t, j, 7)
}

func TestJ3CommitRefusesTextsOfOtherLengths(t *testing.T) {
	d, j := clean(t, 128, 6)
	for _, n := range []int{0, 1, 255, 257, 512, 65792} {
		for i := range 16 {
			l := writes(sixteen()...)
			l[i].Bytes = string(make([]byte, n))
			answers(t, "Commit", j.Commit(l), api.ErrDiskBytes)
		}
	}
	did(t, d, 0, nil)
	numbers(t, j, 7)
}

func TestJ3ARefusedCommitIsNoActOfAnArmedDisk(t *testing.T) {
	d, j := clean(t, 128, 6)
	d.Arm(38)
	for _, l := range [][]api.Write{faulty(17, -1, -1, -1), writes(18), writes(19, 19), {{Sector: 19}}} {
		if e := j.Commit(l); e == api.OK || e == api.ErrDead {
			t.Fatalf("Commit = %d", e)
		}
	}
	answers(t, "Commit", j.Commit(nil), api.ErrDead)
	did(t, d, 0, commitSteps(7, nil)[:37])
}

func TestR3AJournalThatAnsweredDeadGoesOnSo(t *testing.T) {
	l := writes(19, 20)
	for at := range 39 {
		d, j := clean(t, 128, 6)
		if at == 0 { // It is dead ahead of the call.
			d.Arm(1)
			d.Flush()
		} else {
			d.Arm(at)
		}
		answers(t, "Commit", j.Commit(l), api.ErrDead)
		done := len(d.Trace())
		answers(t, "Commit on a dead disk", j.Commit(l), api.ErrDead)
		d.Crash(nil)
		for _, l := range lists() {
			answers(t, "Commit on a disk that lives again", j.Commit(l), api.ErrDead)
		}
		answers(t, "Commit of a wrong list", j.Commit(writes(18)), api.ErrJournalPlace)
		answers(t, "Commit behind that", j.Commit(nil), api.ErrDead)
		numbers(t, j, 7)
		if len(d.Trace()) != done {
			t.Fatalf("dying at %d: a journal that is lost did acts", at)
		}
		k := opened(t, d, at > 19)
		answers(t, "Commit of the journal that is opened anew", k.Commit(l), api.OK)
		answers(t, "Commit of the lost one behind that", j.Commit(l), api.ErrDead)
		numbers(t, j, 7)
	}
}

func TestR3AJournalThatDidNotAnswerDeadLivesOn(t *testing.T) {
	d, j := clean(t, 128, 6)
	d.Arm(1)
	d.Flush()
	answers(t, "Commit that is refused for its list", j.Commit(writes(18)), api.ErrJournalPlace)
	numbers(t, j, 7)
	d.Crash(nil)
	answers(t, "Commit", j.Commit(writes(19)), api.OK)
	numbers(t, j, 8)
	did(t, d, 0, commitSteps(7, writes(19)))
}

func TestJ4NextGoesRound(t *testing.T) {
	for _, head := range []string{clearHead(4294967293), setHead(4294967293, sixteen()...)} {
		d := loaded(t, image(128, head))
		j := opened(t, d, head != clearHead(4294967293))
		for _, number := range []int{4294967294, 4294967295, 0, 1, 2} {
			numbers(t, j, number)
			p, from := plainly(d.Image()), len(d.Trace())
			answers(t, "Commit", j.Commit(writes(19)), api.OK)
			did(t, d, from, commitSteps(number, writes(19)))
			stands(t, d, p.do(commitSteps(number, writes(19))))
			if s, _ := d.Read(1); s != clearHead(number) {
				t.Fatalf("the head is not that of the commit %d", number)
			}
		}
	}
}

func TestJ4NextGoesRoundInAHeadThatIsSet(t *testing.T) {
	for _, number := range []int{4294967295, 0} {
		d, j := clean(t, 128, (number+4294967295)%4294967296)
		d.Arm(20)
		answers(t, "Commit", j.Commit(writes(19)), api.ErrDead)
		d.Crash(nil)
		if s, _ := d.Read(1); s != setHead(number, upTo16(19)...) {
			t.Fatalf("the head is not that of the commit %d", number)
		}
		numbers(t, opened(t, d, true), (number+1)%4294967296)
	}
}

func TestJ4AJournalCountsByItself(t *testing.T) {
	d, j := clean(t, 128, 6)
	for n, head := range []string{clearHead(100), fill(0), setHead(4294967295, sixteen()...), clearHead(0), page(3, 9, "x")} {
		d.Write(1, head)
		numbers(t, j, 7+n)
		if n%2 == 0 {
			d.Flush()
		}
		answers(t, "Commit", j.Commit(nil), api.OK)
		numbers(t, j, 8+n)
		if s, _ := d.Read(1); s != clearHead(7+n) {
			t.Fatal("the head is not of the journal's own number")
		}
	}
}

func TestJ4TwoJournalsOverOneDiskCountByThemselves(t *testing.T) {
	d, j := clean(t, 128, 6)
	k := opened(t, d, false)
	for n := range 3 {
		answers(t, "Commit", j.Commit(writes(19)), api.OK)
		answers(t, "Commit", j.Commit(writes(20)), api.OK)
		numbers(t, k, 7+n)
		answers(t, "Commit", k.Commit(writes(21)), api.OK)
		numbers(t, j, 9+2*n)
		numbers(t, opened(t, d, false), 8+n)
	}
	journal.Format(d)
	numbers(t, j, 13)
	numbers(t, opened(t, d, false), 1)
}

func TestJ4NextAsksNoDisk(t *testing.T) {
	d, j := clean(t, 128, 6)
	d.Arm(1)
	numbers(t, j, 7)
	d.Flush()
	numbers(t, j, 7)
	answers(t, "Commit", j.Commit(nil), api.ErrDead)
	numbers(t, j, 7)
}

func TestJ6CommitsHaveOneShape(t *testing.T) {
	var shape []api.Act
	for _, size := range []int{128, 1024} {
		for _, l := range lists() {
			d, j := clean(t, size, 6)
			answers(t, "Commit", j.Commit(l), api.OK)
			acts := d.Trace()
			for i := 19; i < 35 && i < len(acts); i++ {
				acts[i].Sector = 0
			}
			if shape == nil {
				shape = acts
			}
			if len(acts) != 38 || !slices.Equal(acts, shape) {
				t.Fatalf("acts %v, want %v", acts, shape)
			}
		}
	}
}

func TestJ6OpensHaveTwoShapes(t *testing.T) {
	for _, targets := range rows() {
		d := loaded(t, image(128, setHead(6, targets...)))
		opened(t, d, true)
		if n := len(d.Trace()); n != 19 {
			t.Fatalf("%d acts, want 19", n)
		}
		opened(t, d, false)
		if n := len(d.Trace()); n != 19 {
			t.Fatalf("%d acts, want 19", n)
		}
	}
}

func TestR2TheListIsAsItWas(t *testing.T) {
	spoilt := api.Write{Sector: 77, Bytes: "spare"}
	for _, l := range append(lists(), faulty(17, 1, 3, 4), writes(21, 20, 19, 18), writes(25, 24, 25), []api.Write{{Sector: 21}, {Sector: 20}}) {
		for _, at := range []int{0, 1, 18, 20, 36, 38} {
			room := append(slices.Clone(l), slices.Repeat([]api.Write{spoilt}, 20)...)
			d, j := clean(t, 128, 6)
			d.Arm(at)
			j.Commit(room[:len(l)])
			if !slices.Equal(room[:len(l)], l) || slices.ContainsFunc(room[len(l):], func(w api.Write) bool { return w != spoilt }) {
				t.Fatalf("the list is not as it was: %.300v", room)
			}
		}
	}
}

func TestR2TheListIsNotKept(t *testing.T) {
	d, j := clean(t, 128, 6)
	p := plainly(d.Image())
	l := writes(19, 20)
	answers(t, "Commit", j.Commit(l), api.OK)
	p.do(commitSteps(7, writes(19, 20)))
	clear(l)
	stands(t, d, p)
	answers(t, "Commit", j.Commit(nil), api.OK)
	stands(t, d, p.do(commitSteps(8, nil)))
	answers(t, "Commit of the list that was cleared", j.Commit(l), api.ErrJournalPlace)
}

func TestR2JournalsOverTwoDisksInTurns(t *testing.T) {
	a, ja := clean(t, 128, 6)
	b, jb := clean(t, 300, 4294967295)
	pa, pb := plainly(a.Image()), plainly(b.Image())
	for n, l := range lists() {
		answers(t, "Commit", ja.Commit(l), api.OK)
		stands(t, a, pa.do(commitSteps(7+n, l)))
		stands(t, b, pb)
		numbers(t, jb, n)
		answers(t, "Commit", jb.Commit(writes(299, 130+n)), api.OK)
		stands(t, b, pb.do(commitSteps(n, writes(299, 130+n))))
		stands(t, a, pa)
		numbers(t, ja, 8+n)
		answers(t, "Commit beyond the smaller disk", ja.Commit(writes(299)), api.ErrJournalPlace)
	}
	a.Arm(5)
	answers(t, "Commit", ja.Commit(nil), api.ErrDead)
	answers(t, "Commit of the other one", jb.Commit(nil), api.OK)
	answers(t, "Commit", ja.Commit(nil), api.ErrDead)
}
