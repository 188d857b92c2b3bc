package world

import (
	"slices"
	"testing"
)

// Each line that there is has a form, and no two have the same.
func TestW1EachKindHasAForm(t *testing.T) {
	forms := language().Forms
	for k, form := range forms {
		if form == "" || slices.Index(forms, form) != k {
			t.Errorf("kind %d has the form %q", k, form)
		}
	}
	if len(forms) != lineActs+1 {
		t.Errorf("%d forms", len(forms))
	}
}

func TestW3WhatStaysOfUnflushedWrites(t *testing.T) {
	for _, x := range []struct {
		bits    string
		pending int
		want    []int
	}{
		{"0", 0, nil}, {"1", 0, nil}, {"1", 1, []int{0}}, {"0", 1, nil}, {"1", 16, []int{0}}, {"01", 16, []int{1}}, {"10", 16, []int{0}},
		{"0101", 3, []int{1}}, {"0101", 4, []int{1, 3}}, {"11111111111111111111", 2, []int{0, 1}}, {"00000000000000010000", 16, []int{15}}, {"00000000000000001111", 16, nil},
	} {
		if got := (death{bits: x.bits}).kept(x.pending); !slices.Equal(got, x.want) {
			t.Errorf("%s of %d: %v, want %v", x.bits, x.pending, got, x.want)
		}
	}
}
