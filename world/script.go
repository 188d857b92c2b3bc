package world

import (
	"strongbox/api"
	"strongbox/play"
)

// What a line does, by its form.
const (
	lineDisk = iota
	lineAdd
	lineRemove
	lineLook
	lineVol
	lineUnvol
	lineVols
	lineStat
	lineWrite
	lineRead
	lineTrim
	lineRaw
	lineDomain
	lineArm
	linePower
	lineAudit
	lineTotals
	lineActs
)

// The bounds of words that no other script has.
const (
	maxAct  = 999
	maxBits = 20
	minHex  = 2
	maxHex  = 800
)

// language is what may be said in a world's script. A word in great letters stands for what may be said in its place.
func language() play.Language {
	return play.Language{
		Forms: []string{
			lineDisk:   "disk S",
			lineAdd:    "admin add T Q",
			lineRemove: "admin remove T",
			lineLook:   "admin look T",
			lineVol:    "T vol V",
			lineUnvol:  "T unvol V",
			lineVols:   "T vols",
			lineStat:   "T stat",
			lineWrite:  "T write V B WORD",
			lineRead:   "T read V B",
			lineTrim:   "T trim V B",
			lineRaw:    "T raw HEX",
			lineDomain: "domain T WORD",
			lineArm:    "arm N BITS",
			linePower:  "power",
			lineAudit:  "audit",
			lineTotals: "totals",
			lineActs:   "acts",
		},
		Places: []play.Place{
			{Name: "N", Low: 1, High: maxAct},
			{Name: "BITS", Signs: "01", Low: 1, High: maxBits},
			{Name: "HEX", Signs: "0123456789abcdef", Low: minHex, High: maxHex, Pairs: true},
		},
		Most: api.MaxSteps,
	}
}
