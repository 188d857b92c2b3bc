package world

import (
	"strconv"
	"strings"

	"strongbox/api"
	"strongbox/hash"
)

// What the words of a line may be.
const (
	digits   = "0123456789"
	letters  = "abcdefghijklmnopqrstuvwxyz"
	maxQuota = 65535
	maxAct   = 999
	maxWord  = 32
	maxBits  = 20
	minHex   = 2
	maxHex   = 800
)

// takeAll takes the words of a line by those of a form; false, if they are not of that form.
func (l *line) takeAll(form, words []string) bool {
	if len(form) != len(words) {
		return false
	}
	for i, word := range words {
		if !l.take(form[i], word) {
			return false
		}
	}
	return true
}

// take takes a word that is said in the place of a form's; false, if it may not be.
func (l *line) take(place, word string) bool {
	isRight := false
	switch place {
	case "T":
		l.tenant, isRight = numberOf(word, 1, api.MaxTenants)
	case "V":
		l.volume, isRight = numberOf(word, 1, api.MaxVolume)
	case "B":
		l.block, isRight = numberOf(word, 0, api.MaxBlocks-1)
	case "Q":
		l.quota, isRight = numberOf(word, 0, maxQuota)
	case "S":
		l.sectors, isRight = numberOf(word, api.MinSectors, api.MaxSectors)
	case "N":
		l.act, isRight = numberOf(word, 1, maxAct)
	case "WORD":
		l.word, isRight = word, isWord(word)
	case "BITS":
		l.bits, isRight = word, isMadeOf("01", word, 1, maxBits)
	case "HEX":
		l.frame, isRight = frameOf(word)
	default:
		isRight = word == place
	}
	return isRight
}

// numberOf is the number from low to high that a word says; false, if it says none.
func numberOf(word string, low, high int) (int, bool) {
	n, err := strconv.Atoi(word)
	// Told anew it is the same word only if there is no sign and no 0 ahead.
	return n, err == nil && strconv.Itoa(n) == word && low <= n && n <= high
}

// isWord tells whether a text is a WORD.
func isWord(text string) bool { return isMadeOf(letters+digits, text, 1, maxWord) }

// isMadeOf tells whether a text is low to high signs, all of them among these.
func isMadeOf(signs, text string, low, high int) bool {
	for _, sign := range text {
		if !strings.ContainsRune(signs, sign) {
			return false
		}
	}
	return low <= len(text) && len(text) <= high
}

// frameOf is the bytes that a word says by two signs each; false, if it says none.
func frameOf(word string) (string, bool) {
	frame, errno := hash.Unhex(word)
	return frame, errno == api.OK && minHex <= len(word) && len(word) <= maxHex
}
