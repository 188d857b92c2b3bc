package world

import (
	"strings"

	"strongbox/api"
)

// lineKind is what a line does.
type lineKind int

const (
	lineDisk lineKind = iota
	lineAdd
	lineRemove
	lineLook
	lineVol
	lineUnvol
	lineVols
	lineStat
	lineWrite
	lineRead
	lineTrim
	lineRaw
	lineDomain
	lineArm
	linePower
	lineAudit
	lineTotals
	lineActs
)

// forms are the lines that there are, by their kinds. A word in great letters stands for what may be said in its place.
var forms = [...]string{
	lineDisk:   "disk S",
	lineAdd:    "admin add T Q",
	lineRemove: "admin remove T",
	lineLook:   "admin look T",
	lineVol:    "T vol V",
	lineUnvol:  "T unvol V",
	lineVols:   "T vols",
	lineStat:   "T stat",
	lineWrite:  "T write V B WORD",
	lineRead:   "T read V B",
	lineTrim:   "T trim V B",
	lineRaw:    "T raw HEX",
	lineDomain: "domain T WORD",
	lineArm:    "arm N BITS",
	linePower:  "power",
	lineAudit:  "audit",
	lineTotals: "totals",
	lineActs:   "acts",
}

// line is one of a script: of what it says, each kind has what its form names.
type line struct {
	kind                  lineKind
	tenant, volume, block int
	quota, sectors, act   int
	word, bits, frame     string
}

// linesOf are the lines of a script; the number of the first one that may not be, or 0.
func linesOf(script string) ([]line, int) {
	var lines []line
	var words []string
	from := 0 // where the word begins that is being read
	for at, sign := range script {
		if sign != ' ' && sign != '\n' {
			continue
		}
		words = append(words, script[from:at])
		from = at + 1
		if sign == ' ' {
			continue
		}
		l, isLine := lineOf(words)
		if !isLine || !mayFollow(l, len(lines)) {
			return nil, len(lines) + 1
		}
		lines = append(lines, l)
		words = nil
	}
	// The empty script is one whose first line has no end.
	if !strings.HasSuffix(script, "\n") {
		return nil, len(lines) + 1
	}
	return lines, 0
}

// mayFollow tells whether a line may stand behind so many others.
func mayFollow(l line, ahead int) bool {
	return ahead < api.MaxSteps && (l.kind == lineDisk) == (ahead == 0)
}

// lineOf is the line that these words are; false, if they are none.
func lineOf(words []string) (line, bool) {
	for k, form := range forms {
		l := line{kind: lineKind(k)}
		if l.takeAll(strings.Split(form, " "), words) {
			return l, true
		}
	}
	return line{}, false
}
