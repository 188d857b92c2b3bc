package play_test

import (
	"slices"
	"strings"
	"testing"

	"strongbox/play"
)

// language is one of few words.
func language() play.Language {
	return play.Language{
		Forms: []string{"begin S", "T say WORD K", "T say K", "mark SIGNS", "mark FEW"},
		Places: []play.Place{
			{Name: "K", Low: 0, High: 12},
			{Name: "SIGNS", Signs: "xy", Low: 2, High: 6, Pairs: true},
			{Name: "FEW", Signs: "xyz", Low: 1, High: 3},
		},
		Most: 5,
	}
}

func TestLinesSayWhatStandsInTheirPlaces(t *testing.T) {
	lines, wrong := language().Lines("begin 1024\n8 say 12 0\n1 say 12\nmark xyyx\nmark xyz\n")
	if wrong != 0 || len(lines) != 5 {
		t.Fatalf("%d lines, %d", len(lines), wrong)
	}
	for i, l := range lines {
		if l.Form != i {
			t.Errorf("line %d has the form %d", i, l.Form)
		}
	}
	for i, x := range []struct{ got, want int }{
		{lines[0].Num("S"), 1024}, {lines[0].Num("T"), 0}, {lines[1].Num("T"), 8}, {lines[1].Num("K"), 0}, {lines[2].Num("K"), 12}, {lines[3].Num("K"), 0},
	} {
		if x.got != x.want {
			t.Errorf("%d: %d, want %d", i, x.got, x.want)
		}
	}
	told := []string{lines[1].Text("WORD"), lines[2].Text("WORD"), lines[3].Text("SIGNS"), lines[3].Text("FEW"), lines[4].Text("FEW")}
	if !slices.Equal(told, []string{"12", "", "xyyx", "", "xyz"}) {
		t.Errorf("%q", told)
	}
}

func TestTheFirstLineThatMayNotBe(t *testing.T) {
	for _, x := range []struct {
		script string
		wrong  int
	}{
		{"", 1}, {"\n", 1}, {"begin 128", 1}, {"begin 127\n", 1}, {"begin 1025\n", 1}, {"1 say 1\n", 1}, {"begin 128\n", 0}, {"begin 128\nbegin 128\n", 2},
		{"begin 128\n1 say 13\n", 2}, {"begin 128\n1 say 01\n", 2}, {"begin 128\n1 say -1\n", 2}, {"begin 128\n9 say 1\n", 2}, {"begin 128\n1 say a 1 \n", 2}, {"begin 128\n1 say  1\n", 2},
		{"begin 128\nmark xyx\n", 0}, {"begin 128\nmark xyxyx\n", 2}, {"begin 128\nmark xyxyxy\n", 0}, {"begin 128\nmark xyxyxyxy\n", 2}, {"begin 128\nmark zz\n", 0}, {"begin 128\nmark zzzz\n", 2}, {"begin 128\nmark \n", 2},
		{"begin 128\nT say 1\n", 2}, {"begin 128\n1 say K\n", 2}, {"begin 128\nmark SIGNS\n", 2}, {"begin 128\n1 say é 1\n", 2}, {"begin 128\n1 say \xff 1\n", 2},
		{"begin 128\n" + strings.Repeat("1 say 1\n", 4), 0}, {"begin 128\n" + strings.Repeat("1 say 1\n", 5), 6}, {"begin 128\n" + strings.Repeat("1 say 1\n", 4) + "1 say 1", 6},
	} {
		lines, wrong := language().Lines(x.script)
		if wrong != x.wrong || (wrong != 0 && lines != nil) || (wrong == 0 && len(lines) != strings.Count(x.script, "\n")) {
			t.Errorf("Lines(%q): %d lines, %d, want %d", x.script, len(lines), wrong, x.wrong)
		}
	}
}

func TestListsHaveCommasBetween(t *testing.T) {
	for _, x := range []struct {
		texts []string
		want  string
	}{{nil, "-"}, {[]string{}, "-"}, {[]string{"a"}, "a"}, {[]string{"b", "a", "b"}, "b,a,b"}} {
		if got := play.List(x.texts); got != x.want {
			t.Errorf("List(%q) = %q", x.texts, got)
		}
	}
}
