package pack_test

import (
	"encoding/binary"
	"math"
	"slices"
	"strings"
	"testing"

	"strongbox/api"
	"strongbox/pack"
)

// written is what a Writer has behind some calls, and what was wrong first.
func written(calls ...func(w *pack.Writer)) (string, api.Errno) {
	w := pack.NewWriter()
	for _, call := range calls {
		call(w)
	}
	return w.Done()
}

func layNum(bytes int, l ...int) func(w *pack.Writer) {
	return func(w *pack.Writer) { w.Num(bytes, l...) }
}

func layVar(n int) func(w *pack.Writer) {
	return func(w *pack.Writer) { w.Var(n) }
}

func layRaw(s string) func(w *pack.Writer) {
	return func(w *pack.Writer) { w.Raw(s) }
}

func layText(s string, most int) func(w *pack.Writer) {
	return func(w *pack.Writer) { w.Text(s, most) }
}

// wantNum is a number by so many bytes, as the library lays it.
func wantNum(bytes, n int) string {
	return string(binary.BigEndian.AppendUint64(nil, uint64(n))[8-bytes:])
}

// wantVar is a number by as few bytes as may be, as the library lays it.
func wantVar(n int) string {
	return string(binary.AppendUvarint(nil, uint64(n)))
}

// numbers are those around each power of two, and the least and the greatest there are.
func numbers() []int {
	l := []int{0, math.MaxInt}
	for i := range 63 {
		l = append(l, 1<<i-1, 1<<i, 1<<i+1, 1<<i+1<<i/3)
	}
	return l
}

// belows are below 0.
func belows() []int { return []int{-1, -2, -128, -256, math.MinInt + 1, math.MinInt} }

// notWidths are no widths of numbers, the nearest ones first.
func notWidths() []int {
	return []int{0, 9, -1, 10, 16, 64, 256, -8, 1 << 32, 1<<61 + 1, 1<<32 + 1, math.MaxInt, math.MinInt}
}

// most256 is the greatest number that so many bytes can hold.
func most256(bytes int) int {
	if bytes == 8 {
		return math.MaxInt
	}
	return 1<<(8*bytes) - 1
}

func TestNewWriterHoldsNoBytes(t *testing.T) {
	if got, e := written(); got != "" || e != api.OK {
		t.Errorf("Done = %q, %d, want nothing and OK", got, e)
	}
}

func Test3_1NumLaysTheHighestByteFirst(t *testing.T) {
	for bytes := 1; bytes <= 8; bytes++ {
		for _, n := range numbers() {
			want, wantE := "", api.ErrPackRange
			if n <= most256(bytes) {
				want, wantE = wantNum(bytes, n), api.OK
			}
			if got, e := written(layNum(bytes, n)); got != want || e != wantE {
				t.Errorf("Num(%d, %d) lays %x, %d, want %x, %d", bytes, n, got, e, want, wantE)
			}
		}
	}
}

func Test3_1NumAtTheEdges(t *testing.T) {
	for bytes := 1; bytes <= 7; bytes++ {
		power := 1 << (8 * bytes)
		if got, e := written(layNum(bytes, power-1)); got != strings.Repeat("\xff", bytes) || e != api.OK {
			t.Errorf("Num(%d, %d) lays %x, %d", bytes, power-1, got, e)
		}
		if got, e := written(layNum(bytes, power)); got != "" || e != api.ErrPackRange {
			t.Errorf("Num(%d, %d) lays %x, %d, want error %d", bytes, power, got, e, api.ErrPackRange)
		}
	}
	if got, e := written(layNum(8, 9223372036854775807)); got != "\x7f\xff\xff\xff\xff\xff\xff\xff" || e != api.OK {
		t.Errorf("Num(8, 9223372036854775807) lays %x, %d", got, e)
	}
}

func Test3_1NumLaysEachInTurn(t *testing.T) {
	for bytes := 1; bytes <= 8; bytes++ {
		want := ""
		l := []int{1, 0, most256(bytes), 77, 77, 128}
		for _, n := range l {
			want += wantNum(bytes, n)
		}
		if got, e := written(layNum(bytes, l...)); got != want || e != api.OK {
			t.Errorf("Num(%d, %v) lays %x, %d, want %x", bytes, l, got, e, want)
		}
		if got, e := written(layRaw("a"), layNum(bytes), layRaw("b")); got != "ab" || e != api.OK {
			t.Errorf("Num(%d) of no numbers: %x, %d, want nothing between", bytes, got, e)
		}
	}
}

func Test3_1NumRefuses(t *testing.T) {
	for _, bytes := range notWidths() {
		for _, l := range [][]int{nil, {}, {0}, {1, 2}, {-1}, {math.MaxInt}, {0, math.MinInt}} {
			if got, e := written(layNum(bytes, l...)); got != "" || e != api.ErrArg {
				t.Errorf("Num(%d, %v) lays %x, %d, want error %d", bytes, l, got, e, api.ErrArg)
			}
		}
	}
	for bytes := 1; bytes <= 8; bytes++ {
		for _, n := range belows() {
			for _, l := range [][]int{{n}, {n, 1}, {1, n}, {1, 2, n, 3}} {
				if got, e := written(layNum(bytes, l...)); got != "" || e != api.ErrPackRange {
					t.Errorf("Num(%d, %v) lays %x, %d, want error %d", bytes, l, got, e, api.ErrPackRange)
				}
			}
		}
	}
	for bytes := 1; bytes <= 7; bytes++ {
		n := most256(bytes) + 1
		for _, l := range [][]int{{n, 0}, {0, n}, {0, 1, n, 2}} {
			if got, e := written(layNum(bytes, l...)); got != "" || e != api.ErrPackRange {
				t.Errorf("Num(%d, %v) lays %x, %d, want error %d", bytes, l, got, e, api.ErrPackRange)
			}
		}
	}
}

func Test3_2Var(t *testing.T) {
	for n := range 70000 {
		if got, e := written(layVar(n)); got != wantVar(n) || e != api.OK {
			t.Fatalf("Var(%d) lays %x, %d, want %x", n, got, e, wantVar(n))
		}
	}
	for _, n := range numbers() {
		if got, e := written(layVar(n)); got != wantVar(n) || e != api.OK {
			t.Errorf("Var(%d) lays %x, %d, want %x", n, got, e, wantVar(n))
		}
	}
}

func Test3_2VarAtTheEdges(t *testing.T) {
	for n, want := range map[int]string{
		0: "\x00", 127: "\x7f", 128: "\x80\x01", 300: "\xac\x02", 16383: "\xff\x7f", 16384: "\x80\x80\x01",
		1<<56 - 1: "\xff\xff\xff\xff\xff\xff\xff\x7f", 1 << 56: "\x80\x80\x80\x80\x80\x80\x80\x80\x01",
		9223372036854775807: "\xff\xff\xff\xff\xff\xff\xff\xff\x7f",
	} {
		if got, e := written(layVar(n)); got != want || e != api.OK {
			t.Errorf("Var(%d) lays %x, %d, want %x", n, got, e, want)
		}
	}
}

func Test3_2VarRefuses(t *testing.T) {
	for _, n := range belows() {
		if got, e := written(layVar(n)); got != "" || e != api.ErrPackRange {
			t.Errorf("Var(%d) lays %x, %d, want error %d", n, got, e, api.ErrPackRange)
		}
	}
}

// texts are of all lengths at which something may happen, and of all bytes.
func texts() []string {
	all := make([]byte, 256)
	for i := range all {
		all[i] = byte(i)
	}
	l := []string{"", "\x00", "a", "hi", "hello", "\xff\xfe", "\u00e9", string(all)}
	for _, n := range []int{126, 127, 128, 129, 16383, 16384} {
		l = append(l, strings.Repeat("x", n))
	}
	return l
}

func Test3_3Raw(t *testing.T) {
	for _, s := range texts() {
		if got, e := written(layRaw(s)); got != s || e != api.OK {
			t.Errorf("Raw of %d bytes lays %d, error %d", len(s), len(got), e)
		}
	}
}

func Test3_3Text(t *testing.T) {
	for _, s := range texts() {
		want := wantVar(len(s)) + s
		for _, most := range []int{len(s), len(s) + 1, math.MaxInt} {
			if got, e := written(layText(s, most)); got != want || e != api.OK {
				t.Errorf("Text of %d bytes, most %d, lays %d, error %d", len(s), most, len(got), e)
			}
		}
	}
}

func Test3_3TextRefuses(t *testing.T) {
	for _, s := range texts() {
		for _, most := range belows() {
			if got, e := written(layText(s, most)); got != "" || e != api.ErrArg {
				t.Errorf("Text of %d bytes, most %d, lays %d, error %d, want error %d", len(s), most, len(got), e, api.ErrArg)
			}
		}
		for _, most := range []int{len(s) - 1, len(s) / 2, 0} {
			if most < 0 || most >= len(s) {
				continue
			}
			if got, e := written(layText(s, most)); got != "" || e != api.ErrPackLong {
				t.Errorf("Text of %d bytes, most %d, lays %d, error %d, want error %d", len(s), most, len(got), e, api.ErrPackLong)
			}
		}
	}
}

// wrongLays are calls with which something is wrong, and what.
func wrongLays() map[string]struct {
	lay  func(w *pack.Writer)
	want api.Errno
} {
	type wrong = struct {
		lay  func(w *pack.Writer)
		want api.Errno
	}
	return map[string]wrong{
		"Num(0)":           {layNum(0), api.ErrArg},
		"Num(9, 1)":        {layNum(9, 1), api.ErrArg},
		"Num(2, 65536)":    {layNum(2, 65536), api.ErrPackRange},
		"Num(8, 5, -1)":    {layNum(8, 5, -1), api.ErrPackRange},
		"Var(-1)":          {layVar(-1), api.ErrPackRange},
		"Text(, -1)":       {layText("", -1), api.ErrArg},
		"Text(hello, 4)":   {layText("hello", 4), api.ErrPackLong},
		"Text(x, MinInt)":  {layText("x", math.MinInt), api.ErrArg},
		"Text(hello, 0)":   {layText("hello", 0), api.ErrPackLong},
		"Num(1, 255, 256)": {layNum(1, 255, 256), api.ErrPackRange},
	}
}

func Test3_4WhatWasWrongFirstIsKept(t *testing.T) {
	for first, a := range wrongLays() {
		for then, b := range wrongLays() {
			w := pack.NewWriter()
			w.Raw("ahead")
			for _, lay := range []func(w *pack.Writer){a.lay, layRaw("behind"), b.lay, layNum(1, 1), layVar(1), layText("a", 1)} {
				lay(w)
				if got, e := w.Done(); got != "" || e != a.want {
					t.Fatalf("%s, then %s: %q, %d, want error %d", first, then, got, e, a.want)
				}
			}
		}
	}
}

func Test3_4DoneChangesNothing(t *testing.T) {
	w := pack.NewWriter()
	want := ""
	for i := range 300 {
		for range 2 {
			if got, e := w.Done(); got != want || e != api.OK {
				t.Fatalf("behind %d calls: %d bytes, error %d, want %d bytes", i, len(got), e, len(want))
			}
		}
		w.Var(i)
		want += wantVar(i)
	}
	early, _ := w.Done()
	w.Raw("more")
	if early != want {
		t.Error("what Done gave has changed since")
	}
	w.Var(-1)
	for range 2 {
		if got, e := w.Done(); got != "" || e != api.ErrPackRange {
			t.Errorf("with something wrong: %q, %d, want error %d", got, e, api.ErrPackRange)
		}
	}
}

func Test3_4CallsLayBehindOneAnother(t *testing.T) {
	got, e := written(layNum(2, 258, 0), layVar(300), layText("hi", 4))
	if want := "\x01\x02\x00\x00\xac\x02\x02hi"; got != want || e != api.OK {
		t.Errorf("example 1: %x, %d, want %x", got, e, want)
	}
	got, e = written(layText("", 0), layRaw(""), layNum(3), layRaw("r"), layVar(0), layNum(1, 7))
	if want := "\x00r\x00\x07"; got != want || e != api.OK {
		t.Errorf("%x, %d, want %x", got, e, want)
	}
}

func TestR2WritersDoNotDisturbOneAnother(t *testing.T) {
	a, b := pack.NewWriter(), pack.NewWriter()
	a.Raw("a")
	b.Var(-1)
	a.Num(1, 2)
	if got, e := a.Done(); got != "a\x02" || e != api.OK {
		t.Errorf("one: %x, %d", got, e)
	}
	if got, e := b.Done(); got != "" || e != api.ErrPackRange {
		t.Errorf("the other one: %x, %d", got, e)
	}
}

func TestR2NumsListIsNeitherWrittenNorKept(t *testing.T) {
	for _, l := range [][]int{{1, 2, 3, 4}, {1, 256, 3, 4}, {-1, 2, 3, 4}} {
		for _, bytes := range []int{1, 2, 0, 9} {
			own := slices.Clone(l)
			w := pack.NewWriter()
			w.Num(bytes, own[:3]...)
			if !slices.Equal(own, l) {
				t.Errorf("Num(%d, %v) left %v", bytes, l[:3], own)
			}
			before, errno := w.Done()
			clear(own)
			if got, e := w.Done(); got != before || e != errno {
				t.Errorf("Num(%d, %v) was changed by the list: %x, %d, ahead %x, %d", bytes, l[:3], got, e, before, errno)
			}
		}
	}
}
