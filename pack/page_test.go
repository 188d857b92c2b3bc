package pack_test

import (
	"encoding/binary"
	"hash/crc32"
	"math"
	"math/rand"
	"strings"
	"testing"

	"strongbox/api"
	"strongbox/pack"
)

// withCheck is 252 bytes with their check, as the library makes it.
func withCheck(s string) string {
	return string(binary.LittleEndian.AppendUint32([]byte(s), crc32.ChecksumIEEE([]byte(s))))
}

// wantPage is a page as a sector.
func wantPage(p api.Page) string {
	s := "SB" + string([]byte{byte(p.Kind), byte(len(p.Body))}) + wantNum(4, p.Number) + p.Body
	return withCheck(s + strings.Repeat("\x00", 252-len(s)))
}

// pages are ordinary ones and those at the edges.
func pages() []api.Page {
	full := strings.Repeat("\xff", api.PageBody)
	l := []api.Page{{}, {Kind: 4, Number: 258, Body: "abc"}, {Kind: 255, Number: 4294967295, Body: full}, {Kind: 1, Body: "\x00"}, {Number: 1 << 31, Body: full[1:]}, {Body: strings.Repeat("\x00", api.PageBody)}}
	for n := range api.PageBody + 1 {
		l = append(l, api.Page{Kind: n, Number: n << 20, Body: strings.Repeat("b\x00", n)[:n]})
	}
	return l
}

// isNoPage holds ParsePage to refusing a sector.
func isNoPage(t *testing.T, what, sector string) {
	t.Helper()
	if got, e := pack.ParsePage(sector); got != (api.Page{}) || e != api.ErrPackSum {
		t.Errorf("ParsePage of %s: %+v, %d, want error %d", what, got, e, api.ErrPackSum)
	}
}

func Test3_10Check(t *testing.T) {
	if got := pack.Check("123456789"); got != 3421780262 {
		t.Errorf("Check of 123456789 is %d, want 3421780262", got)
	}
	if got := pack.Check(""); got != 0 {
		t.Errorf("Check of nothing is %d, want 0", got)
	}
	for b := range 256 {
		for n := range 20 {
			s := strings.Repeat(string([]byte{byte(b)}), n)
			if got, want := pack.Check(s), int(crc32.ChecksumIEEE([]byte(s))); got != want {
				t.Errorf("Check of %d bytes %d is %d, want %d", n, b, got, want)
			}
		}
	}
	chance := rand.New(rand.NewSource(10))
	for n := range 2000 {
		b := make([]byte, n)
		chance.Read(b)
		if got, want := pack.Check(string(b)), int(crc32.ChecksumIEEE(b)); got != want {
			t.Fatalf("Check of %x is %d, want %d", b, got, want)
		}
	}
}

func Test3_11MakePage(t *testing.T) {
	for _, p := range pages() {
		if got, e := pack.MakePage(p); got != wantPage(p) || e != api.OK {
			t.Errorf("MakePage(%+v) = %x, %d, want %x", p, got, e, wantPage(p))
		}
	}
	got, _ := pack.MakePage(api.Page{Kind: 4, Number: 258, Body: "abc"})
	want := "SB\x04\x03\x00\x00\x01\x02abc" + strings.Repeat("\x00", 241)
	if len(got) != 256 || got[:252] != want {
		t.Errorf("example 5: %x, want %x and the check", got, want)
	}
}

func Test3_11MakePageRefuses(t *testing.T) {
	long := []string{strings.Repeat("x", api.PageBody+1), strings.Repeat("\x00", 256), strings.Repeat("y", 300), strings.Repeat("z", 65536)}
	var wrong []api.Page
	for _, n := range append(belows(), 256, 257, 1<<32, 1<<32+1, math.MaxInt) {
		wrong = append(wrong, api.Page{Kind: n}, api.Page{Kind: n, Number: n, Body: "b"})
	}
	for _, n := range append(belows(), 4294967296, 4294967297, 1<<40, math.MaxInt) {
		wrong = append(wrong, api.Page{Number: n}, api.Page{Kind: 255, Number: n, Body: "b"})
	}
	for _, p := range wrong {
		for _, body := range append(long, "", p.Body) {
			p.Body = body
			if got, e := pack.MakePage(p); got != "" || e != api.ErrArg {
				t.Errorf("MakePage({%d, %d, %d bytes}) = %x, %d, want error %d", p.Kind, p.Number, len(body), got, e, api.ErrArg)
			}
		}
	}
	for _, body := range long {
		for _, p := range []api.Page{{Body: body}, {Kind: 255, Number: 4294967295, Body: body}} {
			if got, e := pack.MakePage(p); got != "" || e != api.ErrPackLong {
				t.Errorf("MakePage({%d, %d, %d bytes}) = %x, %d, want error %d", p.Kind, p.Number, len(body), got, e, api.ErrPackLong)
			}
		}
	}
}

func Test3_12ParsePage(t *testing.T) {
	for _, p := range pages() {
		if got, e := pack.ParsePage(wantPage(p)); got != p || e != api.OK {
			t.Errorf("ParsePage = %+v, %d, want %+v", got, e, p)
		}
	}
}

func Test3_12ParsePageRefusesOtherLengths(t *testing.T) {
	for _, p := range pages() {
		s := wantPage(p)
		for _, n := range []int{0, 1, 2, 3, 4, 7, 8, 9, 251, 252, 255} {
			isNoPage(t, "too few bytes", s[:n])
		}
		for _, more := range []string{"\x00", "x", s} {
			isNoPage(t, "too many bytes", s+more)
		}
		isNoPage(t, "a page without its first byte", s[1:]+"\x00")
	}
	// With a right check at their end, wherever that is.
	for n := range 400 {
		if n != 252 {
			isNoPage(t, "bytes of another length", withCheck("SB\x04\x00\x00\x00\x00\x00"+strings.Repeat("\x00", n)[min(n, 8):]))
		}
	}
}

// changed is a page with a byte set anew; with is what is done about the check.
func changed(s string, at int, b byte, with func(string) string) string {
	return with(s[:at] + string([]byte{b}) + s[at+1:252])
}

func Test3_12ParsePageRefusesWhatMakePageDoesNotMake(t *testing.T) {
	for _, p := range []api.Page{{}, {Kind: 4, Number: 258, Body: "abc"}, {Kind: 7, Number: 9, Body: strings.Repeat("b", 243)}, {Kind: 255, Number: 4294967295, Body: strings.Repeat("\xff", 244)}} {
		s := wantPage(p)
		stale := func(rest string) string { return rest + s[252:] }
		for _, with := range []func(string) string{withCheck, stale} {
			for b := range 256 {
				for at, letter := range "SB" {
					if byte(b) != byte(letter) {
						isNoPage(t, "other letters", changed(s, at, byte(b), with))
					}
				}
				if b > api.PageBody {
					isNoPage(t, "too long a length", changed(s, 3, byte(b), with))
				}
				if b < len(strings.TrimRight(p.Body, "\x00")) {
					isNoPage(t, "something behind the body", changed(s, 3, byte(b), with))
				}
			}
			for at := 8 + len(p.Body); at < 252; at++ {
				isNoPage(t, "something behind the body", changed(s, at, 1, with))
				isNoPage(t, "something behind the body", changed(s, at, 128, with))
			}
		}
	}
}

// Behind any right check ParsePage answers by what the bytes say alone.
func Test3_12ParsePageTakesEachPageWithARightCheck(t *testing.T) {
	s := wantPage(api.Page{Kind: 4, Number: 258, Body: "abc"})
	if got, e := pack.ParsePage(changed(s, 3, 4, withCheck)); got != (api.Page{Kind: 4, Number: 258, Body: "abc\x00"}) || e != api.OK {
		t.Errorf("with a nought more: %+v, %d", got, e)
	}
	if got, e := pack.ParsePage(changed(s, 3, 244, withCheck)); got.Body != "abc"+strings.Repeat("\x00", 241) || e != api.OK {
		t.Errorf("of the greatest length: %+v, %d", got, e)
	}
	if got, e := pack.ParsePage(changed(s, 4, 255, withCheck)); got.Number != 255<<24+258 || e != api.OK {
		t.Errorf("of another number: %+v, %d", got, e)
	}
	if got, e := pack.ParsePage(changed(s, 9, 'x', withCheck)); got.Body != "axc" || e != api.OK {
		t.Errorf("of another body: %+v, %d", got, e)
	}
}

func Test3_12ParsePageRefusesOtherChecks(t *testing.T) {
	for _, p := range pages() {
		s := wantPage(p)
		check := s[252:]
		for _, other := range []string{"\x00\x00\x00\x00", "\xff\xff\xff\xff", string([]byte{check[3], check[2], check[1], check[0]}), wantNum(4, int(^crc32.ChecksumIEEE([]byte(s[:252]))))} {
			if other != check {
				isNoPage(t, "another check", s[:252]+other)
			}
		}
	}
}

// turned is a sector with the bits turned that a pattern tells, from a bit on.
func turned(sector string, from int, pattern uint32) string {
	b := []byte(sector)
	for i := range 32 {
		if pattern>>i&1 == 1 && from+i < 8*len(b) {
			b[(from+i)/8] ^= 1 << ((from + i) % 8)
		}
	}
	return string(b)
}

func Test3_13APageThroughBoth(t *testing.T) {
	chance := rand.New(rand.NewSource(13))
	for range 2000 {
		body := make([]byte, chance.Intn(api.PageBody+1))
		chance.Read(body)
		p := api.Page{Kind: chance.Intn(256), Number: int(chance.Uint32()), Body: string(body)}
		s, e := pack.MakePage(p)
		if e != api.OK || len(s) != 256 {
			t.Fatalf("MakePage(%+v) = %x, %d", p, s, e)
		}
		if got, e := pack.ParsePage(s); got != p || e != api.OK {
			t.Fatalf("ParsePage = %+v, %d, want %+v", got, e, p)
		}
	}
}

func Test3_13TurnedBitsAreRefused(t *testing.T) {
	chance := rand.New(rand.NewSource(32))
	for _, p := range []api.Page{{}, {Kind: 4, Number: 258, Body: "abc"}, {Kind: 255, Number: 4294967295, Body: strings.Repeat("\xff", 244)}} {
		s := wantPage(p)
		for from := range 8 * 256 {
			patterns := []uint32{1, 3, 1<<31 | 1, math.MaxUint32, 3988292384 | 1, 1 | chance.Uint32(), 1 | chance.Uint32(), 1 | chance.Uint32()>>16}
			for _, pattern := range patterns {
				isNoPage(t, "a page with bits turned", turned(s, from, pattern))
			}
		}
		for from := 8 * 248; from < 8*256; from++ {
			for second := range 32 {
				isNoPage(t, "a page with two bits turned", turned(s, from, 1|1<<second))
			}
		}
	}
}

func Test3_13NoughtsAreNoPage(t *testing.T) {
	isNoPage(t, "a sector of noughts", strings.Repeat("\x00", 256))
	isNoPage(t, "noughts with a right check", withCheck(strings.Repeat("\x00", 252)))
	isNoPage(t, "a sector of bytes 255", strings.Repeat("\xff", 256))
}
