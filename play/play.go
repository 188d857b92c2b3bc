// Package play: what worlds and towns have in common: how the lines of a script are read, the store that they are played on, and the words by which is told what came of them.
package play

import "strings"

// Language is what may be said in a script.
type Language struct {
	Forms  []string // the lines that there are; the first of them is a script's first line, and no other
	Places []Place  // beside those that each language has
	Most   int      // how many lines there may be
}

// Line is one of a script.
type Line struct {
	Form  int      // which of the language's it has
	form  []string // the words of that
	words []string // what is said, word by word
}

// Lines are the lines of a script; the number of the first one that may not be, or 0.
func (g Language) Lines(script string) ([]Line, int) {
	var lines []Line
	var words []string
	from := 0 // where the word begins that is being read
	for at, sign := range script {
		if sign != ' ' && sign != '\n' {
			continue
		}
		words = append(words, script[from:at])
		from = at + 1
		if sign == ' ' {
			continue
		}
		l, isLine := g.lineOf(words)
		if !isLine || !g.mayFollow(l, len(lines)) {
			return nil, len(lines) + 1
		}
		lines = append(lines, l)
		words = nil
	}
	// The empty script is one whose first line has no end.
	if !strings.HasSuffix(script, "\n") {
		return nil, len(lines) + 1
	}
	return lines, 0
}

// mayFollow tells whether a line may stand behind so many others.
func (g Language) mayFollow(l Line, ahead int) bool {
	return ahead < g.Most && (l.Form == 0) == (ahead == 0)
}

// lineOf is the line that these words are; false, if they are none.
func (g Language) lineOf(words []string) (Line, bool) {
	for k, form := range g.Forms {
		l := Line{Form: k, form: strings.Split(form, " "), words: words}
		if g.mayBe(l) {
			return l, true
		}
	}
	return Line{}, false
}

// mayBe tells whether the words of a line are what its form says.
func (g Language) mayBe(l Line) bool {
	if len(l.form) != len(l.words) {
		return false
	}
	for i, word := range l.words {
		if !g.mayStand(l.form[i], word) {
			return false
		}
	}
	return true
}
