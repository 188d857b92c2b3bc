package server_test

import (
	"math/rand"
	"slices"
	"testing"

	"strongbox/api"
	"strongbox/disk"
	"strongbox/server"
)

// opens tells what Open of an image answers, and looks at what it does beside that.
func opens(t *testing.T, image []string, want api.Errno) *server.Server {
	t.Helper()
	d := loaded(t, image)
	s, e := server.Open(d)
	if e != want || (s == nil) != (e != api.OK) {
		t.Fatalf("Open = %v, %d, want %d", s, e, want)
	}
	return s
}

// with is an image with another sector.
func with(image []string, i int, s string) []string {
	image = slices.Clone(image)
	image[i] = s
	return image
}

func TestV3AStoreIsOpenedWithoutActs(t *testing.T) {
	for _, b := range []*box{begun(t, 128), begun(t, 1024), furnished(t, 128), furnished(t, 500)} {
		acts := len(b.d.Trace())
		for range 3 {
			b.open()
			b.tells()
		}
		if len(b.d.Trace()) != acts {
			t.Error("Open did acts")
		}
	}
}

func TestV3ADeadDisk(t *testing.T) {
	for _, d := range []*disk.Disk{newDisk(t, 128), begun(t, 128).d, loaded(t, filled(128))} {
		kill(t, d)
		for range 2 {
			if s, e := server.Open(d); s != nil || e != api.ErrDead {
				t.Errorf("Open = %v, %d", s, e)
			}
		}
	}
	if s, e := server.Open(nil); s != nil || e != api.ErrDead {
		t.Errorf("Open of no disk = %v, %d", s, e)
	}
}

// changed is a text with another byte at a place.
func changed(s string, at int, by byte) string {
	b := []byte(s)
	b[at] ^= by
	return string(b)
}

func TestV3EachByteOfTheSuperPageCounts(t *testing.T) {
	image := furnished(t, 128).d.Image()
	for at := range 256 {
		for _, by := range []byte{1, 128, 255, byte(at) | 2} {
			opens(t, with(image, 0, changed(image[0], at, by)), api.ErrServerForm)
		}
	}
	opens(t, image, api.OK)
}

func TestV3OtherPagesAreNoSuperPage(t *testing.T) {
	image := begun(t, 128).d.Image()
	body := image[0][8:36]
	wrong := []string{noughts(256), text(1), image[1], image[19], image[27], image[28], image[43]}
	for kind := range 256 {
		if kind != 1 {
			wrong = append(wrong, page(kind, 0, body))
		}
	}
	for _, n := range []int{1, 2, 128, 4294967295} {
		wrong = append(wrong, page(1, n, body))
	}
	for _, other := range []string{"", body[:27], body + "\x00", body + "\x01", body[4:], body + body, body[4:] + body[:4]} {
		wrong = append(wrong, page(1, 0, other))
	}
	// Each number of the layout another one, by one more or less, or by what does not fit into two bytes.
	for at := range 28 {
		wrong = append(wrong, page(1, 0, changed(body, at, 1)), page(1, 0, changed(body, at, 128)))
	}
	for _, s := range wrong {
		opens(t, with(image, 0, s), api.ErrServerForm)
	}
	opens(t, with(image, 0, page(1, 0, body)), api.OK)
}

// The super page of a disk of another size, in which all other pages are right as far as they go.
func TestV3TheSuperPageOfAnotherDisk(t *testing.T) {
	sizes := []int{128, 129, 134, 135, 256, 1023, 1024}
	for _, have := range sizes {
		d := newDisk(t, have)
		answers(t, "Format", server.Format(d), api.OK)
		for _, other := range sizes {
			want := api.ErrServerForm
			if other == have {
				want = api.OK
			}
			opens(t, with(d.Image(), 0, newGround(other).super()), want)
		}
	}
	image := begun(t, 128).d.Image()
	opens(t, append(slices.Clone(image), noughts(256)), api.ErrServerForm)
	longer := begun(t, 129).d.Image()
	opens(t, longer[:128], api.ErrServerForm)
}

// part is one of a store's, in the order in which they are opened: its sectors, and its error.
type part struct {
	sectors []int
	errno   api.Errno
}

func partsOf(sectors int) []part {
	g := newGround(sectors)
	between := func(from, to int) []int { return upTo(to)[from:] }
	return []part{
		{[]int{0}, api.ErrServerForm},
		{[]int{1}, api.ErrJournalForm},
		{between(g.bitmap, g.index), api.ErrBitmapForm},
		{between(g.index, g.data), api.ErrIndexForm},
		{between(19, 27), api.ErrTenantForm},
	}
}

func TestV3OnePageThatIsSpoilt(t *testing.T) {
	for _, sectors := range []int{128, 600} {
		image := furnished(t, sectors).d.Image()
		for _, p := range partsOf(sectors) {
			for _, i := range p.sectors {
				for _, s := range []string{noughts(256), text(i), changed(image[i], 9, 1), page(6, 0, ""), image[(i+1)%sectors]} {
					opens(t, with(image, i, s), p.errno)
				}
			}
		}
	}
}

// What is told of two spoilt ones is the error of the part that is opened first, wherever they stand.
func TestV3TwoPagesThatAreSpoilt(t *testing.T) {
	for _, sectors := range []int{128, 400} {
		image := furnished(t, sectors).d.Image()
		parts := partsOf(sectors)
		for k, p := range parts {
			for _, q := range parts[k:] {
				for _, i := range []int{p.sectors[0], p.sectors[len(p.sectors)-1]} {
					for _, j := range []int{q.sectors[0], q.sectors[len(q.sectors)-1]} {
						opens(t, with(with(image, i, text(1)), j, text(2)), p.errno)
					}
				}
			}
		}
	}
}

// Nothing else is a part: Open does not look at it.
func TestV3OtherSectorsAreNotLookedAt(t *testing.T) {
	b := furnished(t, 128)
	for i := range 128 {
		if i >= 2 && i < 19 || i >= 43 {
			opens(t, with(b.d.Image(), i, text(i)), api.OK)
		}
	}
}

func TestV3QuotasAboveTheCapacity(t *testing.T) {
	image := begun(t, 128).d.Image()
	tenant := func(k, quota int) string { return page(5, k, "\x01"+number(quota, 4)+noughts(45)) }
	opens(t, with(image, 19, tenant(1, 83)), api.OK)
	opens(t, with(image, 19, tenant(1, 84)), api.ErrTenantForm)
	opens(t, with(with(image, 19, tenant(1, 40)), 26, tenant(8, 43)), api.OK)
	opens(t, with(with(image, 19, tenant(1, 40)), 26, tenant(8, 44)), api.ErrTenantForm)
}

// head is a journal's, set, with these homes and the fill behind them.
func head(n int, homes ...int) string {
	body := "\x01"
	for _, i := range homes {
		body += number(i, 4)
	}
	for range 16 - len(homes) {
		body += number(18, 4)
	}
	return page(2, n, body)
}

func TestV3WhateverStandsInTheJournalsHead(t *testing.T) {
	b := furnished(t, 128)
	image := b.d.Image()
	for _, n := range []int{0, 1, 77, 4294967294, 4294967295} {
		c := &box{T: t, d: loaded(t, with(image, 1, page(2, n, "\x00"))), m: b.m}
		c.open()
		c.stands()
		c.asks(1, upload(7, 3, 60, 60), api.Done)
		c.asks(1, trim(7, 3), api.Done)
		opens(t, c.d.Image(), api.OK)
	}
	for _, s := range []string{
		noughts(256), text(1), page(2, 0, ""), page(2, 0, "\x02"), page(2, 0, "\x00\x00"), page(1, 0, "\x00"),
		page(2, 0, "\x01"), head(1, 17), head(1, 0), head(1, 128), head(1, 30, 30), head(1, 19, 20, 19), page(2, 0, head(1)[8:72]), page(2, 0, head(1)[8:73]+"\x00"),
	} {
		opens(t, with(image, 1, s), api.ErrJournalForm)
	}
}

// redo is an image whose journal has these sectors to be written.
func redo(image []string, homes []int, bytes []string) []string {
	image = with(image, 1, head(9, homes...))
	for k := range 16 {
		image[2+k] = noughts(256)
		if k < len(bytes) {
			image[2+k] = bytes[k]
		}
	}
	return image
}

// Pages are looked at behind what the journal has to do once more.
func TestV3AJournalThatHasSomethingToDo(t *testing.T) {
	b := furnished(t, 128)
	good := b.d.Image()
	bad := good
	var homes []int
	var bytes []string
	for _, i := range []int{19, 26, 27, 28, 42, 50} {
		homes, bytes = append(homes, i), append(bytes, good[i])
		bad = with(bad, i, text(i))
	}
	opens(t, bad, api.ErrBitmapForm)
	d := loaded(t, redo(bad, homes, bytes))
	c := &box{T: t, d: d, m: b.m}
	c.open()
	if len(d.Trace()) != 19 {
		t.Errorf("Open did %d acts", len(d.Trace()))
	}
	c.tells()
	for i, want := range map[int]api.Errno{19: api.ErrTenantForm, 26: api.ErrTenantForm, 27: api.ErrBitmapForm, 28: api.ErrIndexForm, 42: api.ErrIndexForm, 60: api.OK} {
		opens(t, redo(good, []int{i}, []string{text(i)}), want)
	}
	// No super page: nothing is done.
	d = loaded(t, with(redo(bad, homes, bytes), 0, text(0)))
	_, e := server.Open(d)
	answers(t, "Open", e, api.ErrServerForm)
	if len(d.Trace()) != 0 {
		t.Error("acts without a super page")
	}
}

// A disk that dies while it is opened, however often.
func TestV3ADeathInAnOpen(t *testing.T) {
	r := rand.New(rand.NewSource(1))
	b := furnished(t, 128)
	good := b.d.Image()
	homes := []int{19, 27, 28, 43, 127}
	bad := good
	var bytes []string
	for _, i := range homes {
		bytes = append(bytes, good[i])
		bad = with(bad, i, text(i))
	}
	// Pending are the records that were written; of the head's two acts the first one has none pending, the second one that write.
	pending := append(upTo(17), 0, 1)
	for n := 1; n <= 19; n++ {
		for _, keep := range keeps(r, pending[n-1]) {
			d := loaded(t, redo(bad, homes, bytes))
			answers(t, "Arm", d.Arm(n), api.OK)
			s, e := server.Open(d)
			if s != nil || e != api.ErrDead {
				t.Fatalf("Open = %v, %d", s, e)
			}
			answers(t, "Crash", d.Crash(keep), api.OK)
			c := &box{T: t, d: d, m: b.m}
			c.open()
			c.stands()
		}
	}
}

func TestV3NoChallengeIsPendingBehindAnOpen(t *testing.T) {
	b := furnished(t, 128)
	var last api.Reply
	for range 3 {
		last = b.does(1, offer(7, 0, 10, 7))
	}
	if last.Nonce != 3 {
		t.Fatalf("the nonce is %d", last.Nonce)
	}
	b.open()
	for n := range 5 {
		b.asks(1, prove(n, sampleOf(text(10), last.Places)), api.Unmapped)
	}
	// The nonces begin anew.
	if r := b.does(1, offer(7, 0, 10, 7)); r.Nonce != 1 {
		t.Errorf("the nonce is %d", r.Nonce)
	}
}
