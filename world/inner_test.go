package world

import (
	"slices"
	"testing"

	"strongbox/api"
)

// Some statuses no line can tell, yet each has its word.
func TestW3StatusWords(t *testing.T) {
	for status, want := range []string{
		"done", "challenge", "need", "badframe", "notallowed", "notenant", "exists", "noroom", "notempty", "novolume", "toomany", "outofrange", "overquota", "unmapped",
	} {
		if got := outcome(api.AskTrim, api.Reply{Status: api.Status(status)}); got != want {
			t.Errorf("status %d: %q, want %q", status, got, want)
		}
	}
	if len(statusWords) != 14 {
		t.Errorf("%d words", len(statusWords))
	}
}

// Of a reply that is not Done nothing but its status is told, whatever it is to.
func TestW3OutcomesThatAreNotDone(t *testing.T) {
	for kind := range api.AskTrim + 1 {
		if got := outcome(kind, api.Reply{Status: api.NoTenant}); got != "notenant" {
			t.Errorf("kind %d: %q", kind, got)
		}
	}
}

// Each line that there is has a form, and no two have the same.
func TestW1EachKindHasAForm(t *testing.T) {
	for k, form := range forms {
		if form == "" || slices.Index(forms[:], form) != k {
			t.Errorf("kind %d has the form %q", k, form)
		}
	}
	if len(forms) != int(lineActs)+1 {
		t.Errorf("%d forms", len(forms))
	}
}

func TestW3WhatStaysOfUnflushedWrites(t *testing.T) {
	for _, x := range []struct {
		bits    string
		pending int
		want    []int
	}{
		{"0", 0, nil}, {"1", 0, nil}, {"1", 1, []int{0}}, {"0", 1, nil}, {"1", 16, []int{0}}, {"01", 16, []int{1}}, {"10", 16, []int{0}},
		{"0101", 3, []int{1}}, {"0101", 4, []int{1, 3}}, {"11111111111111111111", 2, []int{0, 1}}, {"00000000000000010000", 16, []int{15}}, {"00000000000000001111", 16, nil},
	} {
		if got := (death{bits: x.bits}).kept(x.pending); !slices.Equal(got, x.want) {
			t.Errorf("%s of %d: %v, want %v", x.bits, x.pending, got, x.want)
		}
	}
}

// A line in which the disk died leaves no client waiting.
func TestW3WhatAClientWaitedForIsCancelled(t *testing.T) {
	var w world
	for _, words := range [][]string{{"disk", "128"}, {"admin", "add", "1", "9"}, {"1", "vol", "1"}, {"1", "write", "1", "0", "a"}, {"arm", "3", "0"}, {"1", "write", "1", "0", "b"}, {"arm", "3", "0"}, {"1", "write", "1", "0", "a"}, {"arm", "3", "0"}, {"1", "trim", "1", "0"}} {
		l, isLine := lineOf(words)
		if !isLine {
			t.Fatalf("%v is no line", words)
		}
		w.play(l)
		for k := 1; k <= api.MaxTenants; k++ {
			if _, errno := w.clients[k].Take(""); errno != api.ErrClientIdle {
				t.Errorf("behind %v client %d waits: %d", words, k, errno)
			}
		}
	}
}
