package play

import (
	"slices"
	"strconv"
	"strings"

	"strongbox/api"
)

// What some words may be made of.
const (
	digits  = "0123456789"
	letters = "abcdefghijklmnopqrstuvwxyz"
)

// The bounds of some words.
const (
	maxQuota = 65535
	maxWord  = 32
)

// Place is a word of a form that stands for others: for numbers, or for texts of some signs.
type Place struct {
	Name      string
	Signs     string // those that a text is made of; of a number none
	Low, High int    // the least and the greatest number; of a text how many signs it has
	Pairs     bool   // of a text: its signs stand two by two
}

// places are those that each language has.
var places = [...]Place{
	{Name: "T", Low: 1, High: api.MaxTenants},
	{Name: "V", Low: 1, High: api.MaxVolume},
	{Name: "B", Low: 0, High: api.MaxBlocks - 1},
	{Name: "Q", Low: 0, High: maxQuota},
	{Name: "S", Low: api.MinSectors, High: api.MaxSectors},
	{Name: "WORD", Signs: letters + digits, Low: 1, High: maxWord},
}

// mayStand tells whether a word may stand where a form has another one.
func (g Language) mayStand(name, word string) bool {
	for _, p := range places {
		if p.Name == name {
			return p.takes(word)
		}
	}
	for _, p := range g.Places {
		if p.Name == name {
			return p.takes(word)
		}
	}
	return word == name
}

// takes tells whether a word may stand in a place.
func (p Place) takes(word string) bool {
	if p.Signs == "" {
		return p.takesNumber(word)
	}
	for _, sign := range word {
		if !strings.ContainsRune(p.Signs, sign) {
			return false
		}
	}
	return p.Low <= len(word) && len(word) <= p.High && !(p.Pairs && len(word)%2 != 0)
}

// takesNumber tells whether a word is one of a place's numbers.
func (p Place) takesNumber(word string) bool {
	n, err := strconv.Atoi(word)
	// Told anew it is the same word only if there is no sign and no 0 ahead.
	return err == nil && strconv.Itoa(n) == word && p.Low <= n && n <= p.High
}

// isWord tells whether a text is a WORD.
func isWord(text string) bool { return Language{}.mayStand("WORD", text) }

// Text is what a line says in a place that its form has.
func (l Line) Text(place string) string {
	at := slices.Index(l.form, place)
	if at < 0 {
		return ""
	}
	return l.words[at]
}

// Num is the number that a line says in a place that its form has.
func (l Line) Num(place string) int {
	// A line was taken only if this is a number.
	n, _ := strconv.Atoi(l.Text(place))
	return n
}
