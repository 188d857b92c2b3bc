package pack_test

import (
	"fmt"
	"math"
	"math/rand"
	"strings"
	"testing"

	"strongbox/api"
	"strongbox/pack"
)

// taking is a call of a Reader: what it answers stands as a text, so that all kinds can be in one row.
type taking struct {
	kind string
	n    int
}

func (c taking) String() string { return fmt.Sprintf("%s(%d)", c.kind, c.n) }

// of makes the call.
func (c taking) of(r *pack.Reader) any {
	switch c.kind {
	case "Num":
		return r.Num(c.n)
	case "Var":
		return r.Var()
	case "Raw":
		return r.Raw(c.n)
	}
	return r.Text(c.n)
}

// nothing is what the call answers when something is wrong.
func (c taking) nothing() any {
	if c.kind == "Num" || c.kind == "Var" {
		return 0
	}
	return ""
}

func takeNum(bytes int) taking { return taking{"Num", bytes} }
func takeVar() taking          { return taking{"Var", 0} }
func takeRaw(n int) taking     { return taking{"Raw", n} }
func takeText(most int) taking { return taking{"Text", most} }

// isTaken holds a call against what it must answer, and the Reader behind it against what it must have taken, with nothing wrong.
func isTaken(t *testing.T, s string, c taking, want any, bytes int) {
	t.Helper()
	r := pack.NewReader(s)
	got := c.of(r)
	wantE := api.OK
	if bytes < len(s) {
		wantE = api.ErrPackMore
	}
	if e, at := r.Done(); got != want || e != wantE || at != bytes {
		t.Errorf("%v of %.40q: %#v, Done %d, %d, want %#v, %d, %d", c, s, got, e, at, want, wantE, bytes)
	}
}

// isRefused holds a call, at the front and behind bytes that were taken, against what must be wrong with it.
func isRefused(t *testing.T, s string, c taking, want api.Errno) {
	t.Helper()
	for _, ahead := range []string{"", "\x00", "ahead"} {
		r := pack.NewReader(ahead + s)
		if got := r.Raw(len(ahead)); got != ahead {
			t.Fatalf("Raw(%d) = %q", len(ahead), got)
		}
		got := c.of(r)
		for range 2 {
			if e, at := r.Done(); got != c.nothing() || e != want || at != len(ahead) {
				t.Errorf("%v of %.40q behind %d bytes: %#v, Done %d, %d, want error %d", c, s, len(ahead), got, e, at, want)
			}
		}
	}
}

func Test3_5Num(t *testing.T) {
	for bytes := 1; bytes <= 8; bytes++ {
		for _, n := range numbers() {
			if n <= most256(bytes) {
				isTaken(t, wantNum(bytes, n), takeNum(bytes), n, bytes)
				isTaken(t, wantNum(bytes, n)+"\xff", takeNum(bytes), n, bytes)
			}
		}
	}
	isTaken(t, "\x01\x02", takeNum(2), 258, 2)
	isTaken(t, "\xff", takeNum(1), 255, 1)
	isTaken(t, "\xff\xff\xff\xff\xff\xff\xff", takeNum(7), 1<<56-1, 7)
	isTaken(t, "\x7f\xff\xff\xff\xff\xff\xff\xff", takeNum(8), 9223372036854775807, 8)
}

func Test3_5NumRefuses(t *testing.T) {
	for _, bytes := range notWidths() {
		for _, s := range []string{"", "a", strings.Repeat("\xff", 8), strings.Repeat("\x00", 20)} {
			isRefused(t, s, takeNum(bytes), api.ErrArg)
		}
	}
	for bytes := 1; bytes <= 8; bytes++ {
		for left := range bytes {
			isRefused(t, strings.Repeat("\xff", left), takeNum(bytes), api.ErrPackShort)
			isRefused(t, strings.Repeat("\x00", left), takeNum(bytes), api.ErrPackShort)
		}
	}
	for _, s := range []string{"\x80\x00\x00\x00\x00\x00\x00\x00", "\x80\x00\x00\x00\x00\x00\x00\x01", "\xff\xff\xff\xff\xff\xff\xff\xff"} {
		isRefused(t, s, takeNum(8), api.ErrPackRange)
		isRefused(t, s+"more", takeNum(8), api.ErrPackRange)
	}
}

func Test3_6Var(t *testing.T) {
	for n := range 70000 {
		isTaken(t, wantVar(n), takeVar(), n, len(wantVar(n)))
	}
	for _, n := range numbers() {
		isTaken(t, wantVar(n), takeVar(), n, len(wantVar(n)))
		isTaken(t, wantVar(n)+"\x00", takeVar(), n, len(wantVar(n)))
		isTaken(t, wantVar(n)+"\xff", takeVar(), n, len(wantVar(n)))
	}
	isTaken(t, "\x00", takeVar(), 0, 1)
	isTaken(t, "\x7f", takeVar(), 127, 1)
	isTaken(t, "\x80\x01", takeVar(), 128, 2)
	isTaken(t, strings.Repeat("\xff", 8)+"\x7f", takeVar(), 9223372036854775807, 9)
	isTaken(t, strings.Repeat("\x80", 8)+"\x01", takeVar(), 1<<56, 9)
}

func Test3_6VarRefuses(t *testing.T) {
	for _, digit := range []string{"\x80", "\x81", "\xff"} {
		for n := range 9 {
			isRefused(t, strings.Repeat(digit, n), takeVar(), api.ErrPackShort)
		}
		for n := 1; n < 9; n++ {
			isRefused(t, strings.Repeat(digit, n)+"\x00", takeVar(), api.ErrPackForm)
			isRefused(t, strings.Repeat(digit, n)+"\x00\x01", takeVar(), api.ErrPackForm)
		}
		for _, behind := range []string{"", "\x00", "\x01", "\x7f", "\x80"} {
			isRefused(t, strings.Repeat(digit, 9)+behind, takeVar(), api.ErrPackRange)
		}
	}
	for ninth := 128; ninth < 256; ninth++ {
		isRefused(t, strings.Repeat("\x80", 8)+string([]byte{byte(ninth)}), takeVar(), api.ErrPackRange)
	}
}

func Test3_7Raw(t *testing.T) {
	for _, s := range texts() {
		isTaken(t, s, takeRaw(len(s)), s, len(s))
		isTaken(t, s+"x", takeRaw(len(s)), s, len(s))
		isTaken(t, s, takeRaw(0), "", 0)
	}
}

func Test3_7RawRefuses(t *testing.T) {
	for _, s := range texts() {
		for _, n := range belows() {
			isRefused(t, s, takeRaw(n), api.ErrArg)
		}
		for _, n := range []int{len(s) + 1, len(s) + 2, 1 << 32, 1 << 62, math.MaxInt} {
			isRefused(t, s, takeRaw(n), api.ErrPackShort)
		}
	}
}

func Test3_7Text(t *testing.T) {
	for _, s := range texts() {
		laid := wantVar(len(s)) + s
		for _, most := range []int{len(s), len(s) + 1, 1 << 62, math.MaxInt} {
			isTaken(t, laid, takeText(most), s, len(laid))
			isTaken(t, laid+"\x80", takeText(most), s, len(laid))
		}
	}
}

func Test3_7TextRefuses(t *testing.T) {
	for _, s := range append(texts(), "\x80", "\x80\x00", strings.Repeat("\xff", 9)) {
		for _, most := range belows() {
			isRefused(t, s, takeText(most), api.ErrArg)
			isRefused(t, wantVar(len(s))+s, takeText(most), api.ErrArg)
		}
	}
	for _, most := range []int{0, 1, 9, math.MaxInt} {
		isRefused(t, "", takeText(most), api.ErrPackShort)
		isRefused(t, "\x80", takeText(most), api.ErrPackShort)
		isRefused(t, "\x80\x00hi", takeText(most), api.ErrPackForm)
		isRefused(t, "\x82\x00hi", takeText(most), api.ErrPackForm)
		isRefused(t, strings.Repeat("\xff", 9)+"hi", takeText(most), api.ErrPackRange)
	}
	for _, s := range texts() {
		if len(s) == 0 {
			continue
		}
		laid := wantVar(len(s)) + s
		for _, most := range []int{0, len(s) - 1} {
			isRefused(t, laid, takeText(most), api.ErrPackLong)
			isRefused(t, laid[:len(laid)-1], takeText(most), api.ErrPackLong)
			isRefused(t, wantVar(len(s)), takeText(most), api.ErrPackLong)
		}
		for _, most := range []int{len(s), math.MaxInt} {
			isRefused(t, laid[:len(laid)-1], takeText(most), api.ErrPackShort)
			isRefused(t, wantVar(len(s)), takeText(most), api.ErrPackShort)
		}
	}
	isRefused(t, wantVar(math.MaxInt)+"x", takeText(math.MaxInt), api.ErrPackShort)
	isRefused(t, wantVar(math.MaxInt)+"x", takeText(math.MaxInt-1), api.ErrPackLong)
}

// wrongTakes are calls with which something is wrong when these bytes are left, and what.
func wrongTakes() []struct {
	left string
	take taking
	want api.Errno
} {
	return []struct {
		left string
		take taking
		want api.Errno
	}{
		{"\x80\x00", takeNum(0), api.ErrArg}, {"\x80\x00", takeNum(9), api.ErrArg}, {"\x80\x00", takeNum(3), api.ErrPackShort},
		{"\x80\x00", takeVar(), api.ErrPackForm}, {"\x80\x00", takeRaw(-1), api.ErrArg}, {"\x80\x00", takeRaw(3), api.ErrPackShort},
		{"\x80\x00", takeText(-1), api.ErrArg}, {"\x80\x00", takeText(5), api.ErrPackForm},
		{"\x02hi", takeText(1), api.ErrPackLong}, {"\x03hi", takeText(5), api.ErrPackShort},
		{"\xff\xff\xff\xff\xff\xff\xff\xff\xff", takeNum(8), api.ErrPackRange}, {"\xff\xff\xff\xff\xff\xff\xff\xff\xff", takeVar(), api.ErrPackRange},
		{"\xff\xff\xff\xff\xff\xff\xff\xff\xff", takeText(5), api.ErrPackRange}, {"", takeVar(), api.ErrPackShort}, {"", takeText(0), api.ErrPackShort},
	}
}

func Test3_8WhatWasWrongFirstIsKept(t *testing.T) {
	behind := []taking{takeNum(1), takeVar(), takeRaw(0), takeRaw(1), takeText(9), takeNum(0), takeRaw(-1), takeText(-1), takeNum(8), takeRaw(math.MaxInt)}
	for _, c := range wrongTakes() {
		for _, ahead := range []string{"", "\x01", "twelve bytes"} {
			r := pack.NewReader(ahead + c.left)
			r.Raw(len(ahead))
			for _, take := range append([]taking{c.take}, behind...) {
				if got := take.of(r); got != take.nothing() {
					t.Errorf("%v of %q, then %v: %#v, want nothing", c.take, c.left, take, got)
				}
				if e, at := r.Done(); e != c.want || at != len(ahead) {
					t.Fatalf("%v of %q, then %v: Done %d, %d, want %d, %d", c.take, c.left, take, e, at, c.want, len(ahead))
				}
			}
		}
	}
}

// Each text of one byte is one that every kind of call could take, had nothing been wrong.
func Test3_8NothingIsTakenOnceSomethingWasWrong(t *testing.T) {
	for _, take := range []taking{takeNum(1), takeVar(), takeRaw(1), takeText(1)} {
		r := pack.NewReader("\x01a")
		r.Raw(-1)
		if got := take.of(r); got != take.nothing() {
			t.Errorf("%v: %#v, want nothing", take, got)
		}
		if e, at := r.Done(); e != api.ErrArg || at != 0 {
			t.Errorf("%v: Done %d, %d, want %d, 0", take, e, at, api.ErrArg)
		}
	}
}

func Test3_8DoneTellsWhatIsLeftAndChangesNothing(t *testing.T) {
	const s = "some bytes"
	r := pack.NewReader(s)
	for i := range len(s) {
		for range 2 {
			if e, at := r.Done(); e != api.ErrPackMore || at != i {
				t.Fatalf("behind %d bytes: Done %d, %d, want %d", i, e, at, api.ErrPackMore)
			}
		}
		if got := r.Raw(1); got != s[i:i+1] {
			t.Fatalf("byte %d is %q", i, got)
		}
	}
	for range 2 {
		if e, at := r.Done(); e != api.OK || at != len(s) {
			t.Errorf("at the end: Done %d, %d, want OK, %d", e, at, len(s))
		}
	}
	if got := r.Raw(0); got != "" {
		t.Errorf("Raw(0) at the end is %q", got)
	}
	if got := r.Num(1); got != 0 {
		t.Errorf("Num(1) at the end is %d", got)
	}
	if e, at := r.Done(); e != api.ErrPackShort || at != len(s) {
		t.Errorf("behind the end: Done %d, %d, want %d, %d", e, at, api.ErrPackShort, len(s))
	}
	if e, at := pack.NewReader("").Done(); e != api.OK || at != 0 {
		t.Errorf("of nothing: Done %d, %d", e, at)
	}
}

func Test3_8Examples(t *testing.T) {
	r := pack.NewReader("\x01\x02\x00\x00\xac\x02\x02hi")
	if a, b, c, d := r.Num(2), r.Num(2), r.Var(), r.Text(4); a != 258 || b != 0 || c != 300 || d != "hi" {
		t.Errorf("example 1: %d, %d, %d, %q", a, b, c, d)
	}
	if e, at := r.Done(); e != api.OK || at != 9 {
		t.Errorf("example 1: Done %d, %d, want OK, 9", e, at)
	}
	r = pack.NewReader("ab")
	if got := r.Raw(1); got != "a" {
		t.Errorf("example 3: Raw(1) is %q", got)
	}
	if e, at := r.Done(); e != api.ErrPackMore || at != 1 {
		t.Errorf("example 3: Done %d, %d, want %d, 1", e, at, api.ErrPackMore)
	}
	if got := r.Raw(2); got != "" {
		t.Errorf("example 3: Raw(2) is %q", got)
	}
	if e, at := r.Done(); e != api.ErrPackShort || at != 1 {
		t.Errorf("example 3: Done %d, %d, want %d, 1", e, at, api.ErrPackShort)
	}
}

func TestR2ReadersDoNotDisturbOneAnother(t *testing.T) {
	a, b := pack.NewReader("\x01\x02"), pack.NewReader("\x01\x02")
	a.Num(1)
	b.Num(9)
	if got := a.Num(1); got != 2 {
		t.Errorf("one: Num(1) is %d, want 2", got)
	}
	if e, at := b.Done(); e != api.ErrArg || at != 0 {
		t.Errorf("the other one: Done %d, %d, want %d, 0", e, at, api.ErrArg)
	}
}

// aRow is a row of calls by chance, as a Writer makes them and as a Reader does, and what is handed in.
func aRow(chance *rand.Rand) (lays []func(w *pack.Writer), takes []taking, given []any) {
	for range chance.Intn(12) {
		n := chance.Int() >> chance.Intn(63)
		s := strings.Repeat(string([]byte{byte(n)}), chance.Intn(300)>>chance.Intn(9))
		switch chance.Intn(4) {
		case 0:
			bytes := 1 + chance.Intn(8)
			l := []int{n & most256(bytes), n >> 1 & most256(bytes), 0}[:chance.Intn(4)]
			lays = append(lays, layNum(bytes, l...))
			for _, x := range l {
				takes, given = append(takes, takeNum(bytes)), append(given, x)
			}
		case 1:
			lays, takes, given = append(lays, layVar(n)), append(takes, takeVar()), append(given, n)
		case 2:
			lays, takes, given = append(lays, layRaw(s)), append(takes, takeRaw(len(s))), append(given, s)
		default:
			most := len(s) + n%3
			lays, takes, given = append(lays, layText(s, most)), append(takes, takeText(most)), append(given, s)
		}
	}
	return lays, takes, given
}

func Test3_9WhatWasLaidDownIsTaken(t *testing.T) {
	chance := rand.New(rand.NewSource(3))
	for range 5000 {
		lays, takes, given := aRow(chance)
		s, e := written(lays...)
		if e != api.OK {
			t.Fatalf("%v: error %d", takes, e)
		}
		r := pack.NewReader(s)
		for i, take := range takes {
			if got := take.of(r); got != given[i] {
				t.Fatalf("%v of %q: number %d is %#v, want %#v", takes, s, i, got, given[i])
			}
		}
		if e, at := r.Done(); e != api.OK || at != len(s) {
			t.Fatalf("%v of %q: Done %d, %d", takes, s, e, at)
		}
	}
}

// again lays down what a call took, by the same call.
func (c taking) again(w *pack.Writer, took any) {
	switch c.kind {
	case "Num":
		w.Num(c.n, took.(int))
	case "Var":
		w.Var(took.(int))
	case "Raw":
		w.Raw(took.(string))
	default:
		w.Text(took.(string), c.n)
	}
}

// isLaidAgain takes a text by a row of calls; if nothing was wrong, what was taken, laid down again, must be the text.
func isLaidAgain(t *testing.T, s string, takes ...taking) {
	t.Helper()
	r, w := pack.NewReader(s), pack.NewWriter()
	for _, take := range takes {
		take.again(w, take.of(r))
	}
	e, at := r.Done()
	if e != api.OK && e != api.ErrPackMore {
		return
	}
	if got, e := w.Done(); got != s[:at] || e != api.OK {
		t.Errorf("%v of %q: laid down again %q, error %d", takes, s, got, e)
	}
}

func Test3_9WhatWasTakenIsTheTextAgain(t *testing.T) {
	for a := range 256 {
		for b := range 256 {
			s := string([]byte{byte(a), byte(b)})
			isLaidAgain(t, s, takeVar())
			isLaidAgain(t, s, takeVar(), takeVar())
			isLaidAgain(t, s, takeText(9), takeRaw(0))
		}
	}
	chance := rand.New(rand.NewSource(9))
	for range 20000 {
		_, takes, _ := aRow(chance)
		b := make([]byte, chance.Intn(40))
		for i := range b {
			// The bytes at which something turns come often.
			b[i] = []byte{0, 1, 127, 128, 129, 255, byte(chance.Intn(256))}[chance.Intn(7)]
		}
		isLaidAgain(t, string(b), takes...)
	}
}
