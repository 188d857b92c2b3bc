package replica_test

import (
	"slices"
	"strings"
	"testing"

	"strongbox/api"
)

// noFrames is texts that are no frames, each by one thing alone and, but for those whose check is meant, with a right check. They would lead to the images now (whole, or from a replica's number 4 to 5).
func noFrames(now []string, l ...int) []string {
	whole, change := wholeOf(5, now, l...), changeOf(4, 5, now, l...)
	var out []string
	for _, p := range []parts{whole, change} {
		out = append(out, lengths(p.text())...)
		out = append(out, checks(p.text())...)
		for _, letters := range []string{"RW", "FR", "rf", "SF", "RG", "Rf", "LM", "\x00\x00"} {
			out = append(out, again(letters+p.text()[2:]))
		}
		for _, kind := range []int{0, 3, 4, 127, 128, 255} {
			out = append(out, p.but(func(p *parts) { p.kind = kind }))
		}
		for _, size := range []int{0, 1, 127, 1025, 1026, 2048, 65535} {
			out = append(out, p.but(func(p *parts) { p.size = size }))
		}
		for _, f := range []func(*parts){
			func(p *parts) { p.from = 0 }, func(p *parts) { p.from, p.to = 0, 0 }, func(p *parts) { p.to = 65536 }, func(p *parts) { p.from, p.to = 65536, 65536 },
			func(p *parts) { p.from, p.to = 65536, 65537 }, func(p *parts) { p.to = 1<<32 - 1 }, func(p *parts) { p.from, p.to = 1<<32-1, 1<<32-1 }, func(p *parts) { p.from = 1 << 31 }, func(p *parts) { p.to = 0 },
		} {
			out = append(out, p.but(f))
		}
		out = append(out, orders(p)...)
	}
	for _, from := range []int{1, 4, 6, 7, 255, 65535} {
		out = append(out, whole.but(func(p *parts) { p.from = from }))
	}
	for _, from := range []int{5, 6, 7, 261, 65535} {
		out = append(out, change.but(func(p *parts) { p.from = from }))
	}
	// A whole one that tells a sector of noughts: the first, the last, in the middle.
	for _, at := range []int{0, 1, 64, len(now) - 1} {
		blank := with(now, at, 0)
		told := slices.Compact(slices.Sorted(slices.Values(append([]int{at}, l...))))
		out = append(out, wholeOf(5, blank, told...).text(), wholeOf(5, blank, at).text())
	}
	return out
}

// but is a frame of parts one of which is another.
func (p parts) but(f func(*parts)) string {
	p.sectors = slices.Clone(p.sectors)
	f(&p)
	return p.text()
}

// lengths is a frame cut short, made longer, and telling more sectors or fewer than it has.
func lengths(s string) []string {
	body := s[:len(s)-4]
	out := []string{"", "R", "RF", checked(""), checked("RF"), s[1:], s[:len(s)-1], s[:50], s + "x", s + "\x00", s + s, checked(s), checked(body + "x"), checked(body + full(1)), checked(body + "\x00\x7f" + full(1)), checked(body[1:]), checked(body[:46]), checked(body[:45]), checked(body[:13]), strings.Repeat("\x00", len(s))}
	for _, n := range []int{-1, 1, 2, 256} {
		out = append(out, checked(body[:45]+num(numIn(body[45:47])+n, 2)+body[47:]))
	}
	if len(body) > 47 {
		out = append(out, checked(body[:len(body)-1]), checked(body[:len(body)-256]), checked(body[:len(body)-258]), checked(body[:45]+"\x00\x00"+body[47:]))
	}
	return append(out, checked(body[:45]+"\xff\xff"+body[47:]), checked(body[:45]+"\xff\xff"))
}

// checks is a frame with other checks: one bit turned in each byte of it; the check's bytes in another order; none.
func checks(s string) []string {
	var out []string
	for at := range s {
		out = append(out, turned(s, at, at%8))
	}
	at := len(s) - 4
	return append(out, s[:at], s[:at]+"\x00\x00\x00\x00", s[:at]+s[at+3:]+s[at+2:at+3]+s[at+1:at+2]+s[at:at+1])
}

// orders is frames whose sectors do not rise, or are none of the image.
func orders(p parts) []string {
	if len(p.sectors) < 2 {
		return nil
	}
	one, two := p.sectors[0], p.sectors[len(p.sectors)-1]
	var out []string
	for _, l := range [][]api.Write{{one, one}, {two, two}, {two, one}, {one, two, one}, {one, two, two}, {one, one, two}} {
		out = append(out, p.but(func(p *parts) { p.sectors = l }))
	}
	for _, beyond := range []int{p.size, p.size + 1, p.size + 256, 1024, 32768, 65535} {
		out = append(out, p.but(func(p *parts) { p.sectors[len(p.sectors)-1].Sector = beyond }), p.but(func(p *parts) { p.sectors[0].Sector = beyond }))
		out = append(out, p.but(func(p *parts) { p.sectors = append(p.sectors, api.Write{Sector: beyond, Bytes: full(1)}) }))
	}
	return out
}

// The replicas that frames are tried on: that have nothing; that could take them; that have a later image, or another one.
func everyone(t *testing.T, before, now []string) []triedReplica {
	t.Helper()
	other := image(129, 5, 5)
	return []triedReplica{tryReplica(t), having(t, 4, before), having(t, 1, now), having(t, 5, now), having(t, 65535, before), having(t, 4, other)}
}

func TestX5NoFrames(t *testing.T) {
	before := image(128, 9, 9)
	now := with(before, 3, 1, 127, 2)
	for _, r := range everyone(t, before, now) {
		for _, s := range noFrames(now, 3, 9, 127) {
			r.refuses(s, api.ErrReplicaFrame)
		}
		for _, s := range noWords(now) {
			r.refuses(s, api.ErrReplicaFrame)
		}
		r.refuses(wordOfNothing, api.ErrReplicaFrame)
		r.refuses(wantWord(5, now), api.ErrReplicaFrame)
	}
	// All of them were no frames for what they are, not for what they lead to.
	r := having(t, 4, before)
	r.takes(wholeOf(5, now, 3, 9, 127).text())
	r = having(t, 4, before)
	r.takes(changeOf(4, 5, now, 3, 9, 127).text())
}

func TestX5NoFramesWithoutSectors(t *testing.T) {
	before := image(128)
	for _, r := range everyone(t, before, before) {
		for _, s := range noFrames(before) {
			r.refuses(s, api.ErrReplicaFrame)
		}
	}
}

// A frame of more sectors than an image has would be longer than any.
func TestX5TheLongestFrames(t *testing.T) {
	now := crowded(1024, 1)
	var all []int
	for i := range now {
		all = append(all, i)
	}
	p := wholeOf(2, now, all...)
	r := tryReplica(t)
	for _, extra := range []api.Write{{Sector: 1023, Bytes: now[1023]}, {Sector: 1024, Bytes: full(1)}, {Sector: 0, Bytes: now[0]}} {
		r.refuses(p.but(func(p *parts) { p.sectors = append(p.sectors, extra) }), api.ErrReplicaFrame)
	}
	r.refuses(p.but(func(p *parts) { p.size = 1023 }), api.ErrReplicaFrame)
	if s := p.text(); len(s) != 51+258*1024 {
		t.Fatalf("it has %d bytes", len(s))
	}
	r.takes(p.text())
	r.takes(changeOf(2, 3, crowded(1024, 2), all...).text())
}

func TestX5WholeFrames(t *testing.T) {
	for _, size := range []int{128, 129, 1023, 1024} {
		for _, now := range [][]string{image(size), image(size, 0, 1), image(size, size-1, 255), crowded(size, 1), with(crowded(size, 1), 0, 0, size-1, 0)} {
			r := tryReplica(t)
			r.takes(wantWhole(1, now))
			r.takes(wantWhole(2, image(size, 7, 7)))
			r.takes(wantWhole(65535, now))
		}
	}
	// The image need not be as great as the one that it had, nor follow it.
	r := having(t, 3, crowded(128, 1))
	r.takes(wantWhole(4, crowded(300, 2)))
	r.takes(wantWhole(17, image(1024, 1000, 1)))
	r.takes(wantWhole(18, image(128)))
}

func TestX5Changes(t *testing.T) {
	for _, size := range []int{128, 129, 1023, 1024} {
		now := crowded(size, 1)
		r := having(t, 1, now)
		for k, next := range [][]string{now, with(now, 0, 1), with(now, size-1, 1), with(now, size/2, 0), crowded(size, 2), image(size), image(size)} {
			r.takes(wantChange(r.model.number, r.model.image, 2+3*k, next))
		}
		r.takes(wantChange(r.model.number, r.model.image, 65535, now))
	}
}

// Sectors of a change that are as they were are no fault: the root tells what comes of it.
func TestX5AChangeThatTellsMore(t *testing.T) {
	before := crowded(128, 1)
	now := with(before, 5, 0, 9, 7)
	r := having(t, 1, before)
	r.takes(changeOf(1, 2, now, 0, 4, 5, 9, 127).text())
	r.takes(changeOf(2, 3, now, 5, 6).text())
	var all []int
	for i := range now {
		all = append(all, i)
	}
	r.takes(changeOf(3, 4, now, all...).text())
	// One that tells less is not taken.
	r = having(t, 1, before)
	r.refuses(changeOf(1, 2, now, 5).text(), api.ErrReplicaRoot)
	r.refuses(changeOf(1, 2, now).text(), api.ErrReplicaRoot)
	r.refuses(changeOf(1, 2, now, 0, 127).text(), api.ErrReplicaRoot)
	r.takes(changeOf(1, 2, now, 5, 9).text())
}

func TestX5ARootThatIsAnotherOne(t *testing.T) {
	before := image(128, 9, 9)
	now := with(before, 3, 1)
	r := having(t, 4, before)
	for _, p := range []parts{wholeOf(5, now, 3, 9), changeOf(4, 5, now, 3)} {
		for at := range 32 {
			for bit := range 8 {
				s := p.but(func(p *parts) { p.root = turned(p.root, at, bit) })
				if word, errno := r.is.Take(s); word != "" || errno != api.ErrReplicaRoot {
					t.Fatalf("Take = %x, %d", word, errno)
				}
			}
		}
		for _, root := range []string{wantRoot(before), wantRoot(image(128)), wantRoot(now[:127]), strings.Repeat("\x00", 32), sum("")} {
			r.refuses(p.but(func(p *parts) { p.root = root }), api.ErrReplicaRoot)
		}
		for k := range p.sectors {
			r.refuses(p.but(func(p *parts) { p.sectors[k].Bytes = turned(p.sectors[k].Bytes, 255, 0) }), api.ErrReplicaRoot)
			r.refuses(p.but(func(p *parts) { p.sectors[k].Sector++ }), api.ErrReplicaRoot)
			r.refuses(p.but(func(p *parts) { p.sectors = slices.Delete(p.sectors, k, k+1) }), api.ErrReplicaRoot)
		}
	}
	r.stands("all of them")
	// A whole one is laid on noughts, not on what the replica has.
	r.refuses(wholeOf(5, now, 3).text(), api.ErrReplicaRoot)
	// The same sectors are another image, if it has more of them.
	r.refuses(wholeOf(5, now, 3, 9).but(func(p *parts) { p.size = 129 }), api.ErrReplicaRoot)
	r.takes(wholeOf(5, image(129, 3, 1, 9, 9), 3, 9).text())
	// One that has nothing has no word either of an image that it did not take.
	tryReplica(t).refuses(wholeOf(1, now, 3).text(), api.ErrReplicaRoot)
}

func TestX5LateAndDoubled(t *testing.T) {
	var frames []string
	frames = append(frames, wantWhole(1, numbered(1)))
	for n := 2; n <= 9; n++ {
		frames = append(frames, wantChange(n-1, numbered(n-1), n, numbered(n)), wantWhole(n, numbered(n)))
	}
	r := tryReplica(t)
	for n := 1; n <= 9; n++ {
		r.takes(frames[max(0, 2*n-3)])
		for _, s := range frames {
			p, _ := readParts(s)
			switch {
			case p.to <= n:
				r.answers(s, api.ErrReplicaOld)
			case p.kind == 2 && p.from != n:
				r.answers(s, api.ErrReplicaGap)
			}
		}
	}
	if r.model.number != 9 {
		t.Errorf("it has the number %d", r.model.number)
	}
}

func TestX5ChangesFromAnotherImage(t *testing.T) {
	now := image(128, 1, 1)
	empty := tryReplica(t)
	for _, from := range []int{1, 2, 3, 65534} {
		empty.answers(changeOf(from, 65535, now, 1).text(), api.ErrReplicaGap)
		empty.answers(changeOf(from, 65535, image(128)).text(), api.ErrReplicaGap)
	}
	r := having(t, 300, now)
	for _, from := range []int{1, 43, 44, 255, 256, 299, 301, 302, 556, 65534} {
		r.answers(changeOf(from, 65535, now).text(), api.ErrReplicaGap)
		r.answers(changeOf(from, 65535, with(now, 2, 2), 2).text(), api.ErrReplicaGap)
	}
	for _, size := range []int{129, 256, 1023, 1024} {
		r.answers(changeOf(300, 301, image(size, 1, 1)).text(), api.ErrReplicaGap)
		r.answers(changeOf(300, 301, image(size, 1, 1), 0, 1).text(), api.ErrReplicaGap)
		having(t, 300, image(size)).answers(changeOf(300, 301, now, 1).text(), api.ErrReplicaGap)
	}
	r.takes(changeOf(300, 301, now).text())
	// From its number, but of another primary's image: the root tells it.
	r.refuses(changeOf(301, 302, image(128, 3, 3), 3).text(), api.ErrReplicaRoot)
}

// Each error with those that come behind it, where there can be both.
func TestX5WhichErrorIsAnswered(t *testing.T) {
	before := image(128, 9, 9)
	now := with(before, 3, 1)
	badRoot := func(p *parts) { p.root = sum("another") }
	badForm := func(p *parts) { badRoot(p); p.sectors[0].Sector = 128 }
	for _, p := range []parts{wholeOf(4, now, 3), changeOf(2, 4, now, 3), changeOf(1, 2, now, 3), changeOf(8, 9, now, 3), wholeOf(9, now, 3)} {
		for _, r := range everyone(t, before, now) {
			r.refuses(p.but(badForm), api.ErrReplicaFrame)
		}
	}
	r := having(t, 4, before)
	for _, to := range []int{2, 3, 4} {
		r.answers(wholeOf(to, now, 3).but(badRoot), api.ErrReplicaOld)
		r.answers(wholeOf(to, image(300)).but(badRoot), api.ErrReplicaOld)
		for from := 1; from < to; from++ {
			r.answers(changeOf(from, to, now, 3).but(badRoot), api.ErrReplicaOld)
			r.answers(changeOf(from, to, image(300)).but(badRoot), api.ErrReplicaOld)
		}
	}
	for _, from := range []int{1, 3, 5} {
		r.answers(changeOf(from, 6, now, 3).but(badRoot), api.ErrReplicaGap)
	}
	r.answers(changeOf(4, 6, image(300), 3).but(badRoot), api.ErrReplicaGap)
	tryReplica(t).answers(changeOf(4, 6, now, 3).but(badRoot), api.ErrReplicaGap)
	r.refuses(changeOf(4, 6, now, 3).but(badRoot), api.ErrReplicaRoot)
	r.refuses(wholeOf(6, now, 3).but(badRoot), api.ErrReplicaRoot)
	r.takes(changeOf(4, 6, now, 3).text())
}

func TestX5AtTheLastNumber(t *testing.T) {
	now := image(128, 1, 1)
	r := having(t, 65534, now)
	r.refuses(wholeOf(65536, now, 1).text(), api.ErrReplicaFrame)
	r.refuses(changeOf(65534, 65536, now).text(), api.ErrReplicaFrame)
	r.takes(changeOf(65534, 65535, now).text())
	r.refuses(changeOf(65535, 65536, now).text(), api.ErrReplicaFrame)
	r.answers(wholeOf(65535, now, 1).text(), api.ErrReplicaOld)
	r.answers(changeOf(65534, 65535, now).text(), api.ErrReplicaOld)
}
