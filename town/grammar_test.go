package town_test

import (
	"math/rand"
	"regexp"
	"slices"
	"strings"
	"testing"

	"strongbox/api"
	"strongbox/town"
)

// places are what may stand for a word of the table, as the document says it.
var places = map[string]string{
	"T": `[1-8]`, "V": `[1-9][0-9]?`, "B": `([0-9]|[1-5][0-9])`,
	"Q": `(0|[1-9][0-9]{0,3}|[1-5][0-9]{4}|6[0-4][0-9]{3}|65[0-4][0-9]{2}|655[0-2][0-9]|6553[0-5])`,
	"S": `(12[89]|1[3-9][0-9]|[2-9][0-9]{2}|10[01][0-9]|102[0-4])`, "WORD": `[a-z0-9]{1,32}`,
	"NAME": `[a-z]{1,8}`, "K": `([1-9]|1[0-6])`, "M": `[0-8]`, "I": `([0-9]|1[0-9]|2[0-3])`, "SHIPS": `[0-4]{1,20}`, "SAYS": `[0124x]{1,8}`,
}

// oracleOf finds what may stand for a form's words, one or several.
func oracleOf(form string) *regexp.Regexp {
	words := strings.Split(form, " ")
	for i, w := range words {
		if p, ok := places[w]; ok {
			words[i] = p
		}
	}
	return regexp.MustCompile(`\A` + strings.Join(words, " ") + `\z`)
}

// oracle are all lines of the table.
func oracle() []*regexp.Regexp {
	var l []*regexp.Regexp
	for _, form := range formTable {
		l = append(l, oracleOf(form))
	}
	return l
}

func anyOf(oracle []*regexp.Regexp, line string) bool {
	return slices.ContainsFunc(oracle, func(x *regexp.Regexp) bool { return x.MatchString(line) })
}

// judged is what N1 says of a script.
func judged(oracle []*regexp.Regexp, script string) (api.Errno, int) {
	if len(script) > 6000 {
		return api.ErrTownLong, 0
	}
	lines := strings.SplitAfter(script, "\n")
	for i, line := range lines {
		if line == "" && i > 0 {
			break
		}
		line, ended := strings.CutSuffix(line, "\n")
		if !ended || !anyOf(oracle, line) || oracle[0].MatchString(line) != (i == 0) || i >= 160 {
			return api.ErrTownLine, i + 1
		}
	}
	return api.OK, 0
}

// spoilt is a script that was changed a little, by chance.
func spoilt(r *rand.Rand, s string) string {
	signs := "01234569abcfgxyzTA \n\n  \r\x00\xff-+_é"
	lines := strings.SplitAfter(s, "\n")
	at := r.Intn(len(s) + 1)
	sign := string(signs[r.Intn(len(signs))])
	if s == "" {
		return sign
	}
	switch r.Intn(8) {
	case 0:
		return s[:at] + sign + s[at:]
	case 1:
		return s[:min(at, len(s)-1)] + s[min(at, len(s)-1)+1:]
	case 2:
		return s[:min(at, len(s)-1)] + sign + s[min(at, len(s)-1)+1:]
	case 3:
		return s[:at]
	case 4:
		k := r.Intn(len(lines))
		return strings.Join(slices.Insert(lines, k, lines[r.Intn(len(lines))]), "")
	case 5:
		i, k := r.Intn(len(lines)), r.Intn(len(lines))
		lines[i], lines[k] = lines[k], lines[i]
		return strings.Join(lines, "")
	case 6:
		words := strings.SplitAfter(s, " ")
		i, k := r.Intn(len(words)), r.Intn(len(words))
		words[i], words[k] = words[k], words[i]
		return strings.Join(words, "")
	}
	return strings.Replace(s, sign, sign+sign, 1)
}

// Scripts that are spoilt by chance: the errno and the line are those that N1 says, and where there is none, the transcript is the model's.
func TestN1SpoiltScriptsByChance(t *testing.T) {
	lines := oracle()
	came := map[api.Errno]int{}
	for seed := range int64(4000) {
		r := rand.New(rand.NewSource(seed))
		script := "disk 128\n"
		for range 1 + r.Intn(12) {
			form := formTable[r.Intn(len(formTable))]
			words := strings.Split(form, " ")
			for i, w := range words {
				if may := mayBe[w]; may != nil {
					words[i] = may[r.Intn(len(may))]
				}
			}
			if form != "disk S" {
				script += strings.Join(words, " ") + "\n"
			}
		}
		for range r.Intn(3) {
			script = spoilt(r, script)
		}
		want, line := judged(lines, script)
		came[want]++
		s, e, at := town.Run(script)
		if e != want || at != line || (e != api.OK && s != "") {
			t.Fatalf("seed %d: Run(%q) = %q, %d, %d, want %d, %d", seed, script, s, e, at, want, line)
		}
		if e == api.OK && s != scriptOf(modelled(strings.Split(strings.TrimSuffix(script, "\n"), "\n"))) {
			t.Fatalf("seed %d: %q: %q", seed, script, s)
		}
	}
	if came[api.OK] < 500 || came[api.ErrTownLine] < 500 {
		t.Errorf("it came to %v", came)
	}
}
