package town_test

import (
	"strings"
	"testing"

	"strongbox/api"
	"strongbox/town"
)

const first = "disk 128\n"

// refuses runs a script that may not be played.
func refuses(t *testing.T, script string, want api.Errno, line int) {
	t.Helper()
	if s, e, at := town.Run(script); s != "" || e != want || at != line {
		t.Errorf("Run(%.80q) = %.80q, %d, %d, want %d, %d", script, s, e, at, want, line)
	}
}

// takes runs a script that may be played: a line for each.
func takes(t *testing.T, script string) {
	t.Helper()
	s, e, at := town.Run(script)
	if e != api.OK || at != 0 || strings.Count(s, "\n") != strings.Count(script, "\n") || !strings.HasSuffix(s, "\n") {
		t.Errorf("Run(%.80q) = %.80q, %d, %d", script, s, e, at)
	}
}

// sayLine is a line of so many bytes, 10 to 48, line feed and all.
func sayLine(size int) string {
	says := min(8, size-9)
	return "1 say " + of("w", size-8-says) + " " + of("1", says) + "\n"
}

// longScript is one of so many bytes, from 5990 on, that is right but for its length.
func longScript(size int) string {
	s := first + of(sayLine(48), 123)
	left := size - len(s)
	return s + sayLine(left-40) + sayLine(40)
}

func TestN1Bytes(t *testing.T) {
	for _, size := range []int{5998, 5999, 6000} {
		if len(longScript(size)) != size {
			t.Fatalf("%d bytes", len(longScript(size)))
		}
		takes(t, longScript(size))
	}
	for _, size := range []int{6001, 6002} {
		refuses(t, longScript(size), api.ErrTownLong, 0)
	}
	for _, size := range []int{5999, 6000} {
		refuses(t, of("x", size), api.ErrTownLine, 1)
		refuses(t, of("\n", size), api.ErrTownLine, 1)
		refuses(t, of(" ", size), api.ErrTownLine, 1)
		refuses(t, first+of(" ", size-10)+"\n", api.ErrTownLine, 2)
		refuses(t, first+of("1", size-10)+"\n", api.ErrTownLine, 2)
	}
	// That it is too long is told ahead of any line.
	for _, size := range []int{6001, 5000000} {
		for _, sign := range []string{"x", "\n", " ", "\xff", "\x00"} {
			refuses(t, of(sign, size), api.ErrTownLong, 0)
		}
	}
	refuses(t, "power\n"+longScript(6001), api.ErrTownLong, 0)
	refuses(t, "", api.ErrTownLine, 1)
}

func TestN1Lines(t *testing.T) {
	takes(t, first)
	for _, n := range []int{1, 2, 119, 120, 121, 158, 159} {
		takes(t, first+of("note\n", n))
		refuses(t, first+of("note\n", n)+"note", api.ErrTownLine, n+2)
		refuses(t, first+of("note\n", n)+" ", api.ErrTownLine, n+2)
	}
	for _, n := range []int{160, 161, 500} {
		refuses(t, first+of("note\n", n), api.ErrTownLine, 161)
		refuses(t, first+of("note\n", n)+"note", api.ErrTownLine, 161)
		refuses(t, first+of("note\n", n)+"x\n", api.ErrTownLine, 161)
	}
	refuses(t, first+of("note\n", 159)+"x\n", api.ErrTownLine, 161)
	refuses(t, first+of("note\n", 159)+first, api.ErrTownLine, 161)
	refuses(t, first+of("note\n", 158)+"x\nnote\n", api.ErrTownLine, 160)
	refuses(t, first+"x\n"+of("note\n", 300), api.ErrTownLine, 2)
}

func TestN1TheLastLineHasALineFeed(t *testing.T) {
	for _, s := range []string{"disk 128", "disk 12", "d", " ", "x"} {
		refuses(t, s, api.ErrTownLine, 1)
	}
	for _, s := range []string{"power", "power ", "powe", " ", "p", "\r", "\x00", "\xff", "ship 1", "1 say a 1", "disk 128"} {
		refuses(t, first+s, api.ErrTownLine, 2)
		refuses(t, first+"note\n"+s, api.ErrTownLine, 3)
	}
}

func TestN1TheFirstLineIsDiskAndNoOther(t *testing.T) {
	for _, s := range []string{"power", "note", "audit", "totals", "admin add 1 1", "1 stat", "ship 1", "promote", "1 link", "lose a 0", ""} {
		refuses(t, s+"\n", api.ErrTownLine, 1)
		refuses(t, s+"\n"+first, api.ErrTownLine, 1)
	}
	refuses(t, first+first, api.ErrTownLine, 2)
	refuses(t, first+"disk 1024\n", api.ErrTownLine, 2)
	refuses(t, first+"note\n"+first+"note\n", api.ErrTownLine, 3)
	refuses(t, first+"note\nnote\nnote\ndisk 200\n", api.ErrTownLine, 5)
}

// Where several lines may not be, the first one is told, whatever is wrong with it.
func TestN1TheFirstOfSeveral(t *testing.T) {
	wrong := []string{"nothing", "", " ", "disk 128", "1 vol 0", "note note", "ship 5", "power\r", "\xff\xfe", "lose a 24", "acts"}
	for i, a := range wrong {
		for _, b := range wrong {
			ahead := of("audit\n", i)
			refuses(t, first+ahead+a+"\nnote\n"+b+"\n", api.ErrTownLine, i+2)
			refuses(t, first+ahead+a+"\n"+b, api.ErrTownLine, i+2)
			if b+"\n" != first {
				refuses(t, b+"\n"+first+a+"\n", api.ErrTownLine, 1)
			}
		}
	}
}

// What a world's script may have, and a town's may not.
func TestN1LinesOfAWorldThatATownHasNot(t *testing.T) {
	for _, line := range []string{"admin remove 1", "admin look 1", "1 vols", "1 raw 00", "domain 1 o", "arm 1 1", "acts"} {
		refuses(t, line+"\n", api.ErrTownLine, 1)
		refuses(t, first+line+"\n", api.ErrTownLine, 2)
		refuses(t, first+"admin add 1 9\n"+line+"\n", api.ErrTownLine, 3)
	}
}

// formTable are the lines of the document's table.
var formTable = []string{
	"disk S", "admin add T Q", "T vol V", "T unvol V", "T stat", "T write V B WORD", "T read V B", "T trim V B", "audit", "totals", "power",
	"T save NAME V", "T more NAME V", "split NAME K M", "lose NAME I", "T load NAME V", "note", "ship SHIPS", "promote", "T link", "T say WORD SAYS",
}

// mayBe are words that may stand in a place: both ends of each range among them.
var mayBe = map[string][]string{
	"T":     {"1", "2", "7", "8"},
	"V":     {"1", "2", "9", "10", "98", "99"},
	"B":     {"0", "1", "9", "10", "58", "59"},
	"Q":     {"0", "1", "83", "9999", "10000", "65534", "65535"},
	"S":     {"128", "129", "300", "999", "1000", "1023", "1024"},
	"WORD":  {"a", "z", "0", "9", "007", of("a", 31), of("z", 32), of("0", 32), "abc123", "power", "admin"},
	"NAME":  {"a", "z", "home", "power", "sevenab", "abcdefgh", "zzzzzzzz", "none", "x"},
	"K":     {"1", "2", "9", "10", "15", "16"},
	"M":     {"0", "1", "7", "8"},
	"I":     {"0", "1", "9", "10", "15", "16", "22", "23"},
	"SHIPS": {"0", "1", "2", "3", "4", "01234", of("4", 19), of("1", 20), of("0", 20)},
	"SAYS":  {"0", "1", "2", "4", "x", "xx", "0124x", of("x", 7), of("x", 8), of("1", 8)},
}

// strange are words that may stand nowhere, or in few places.
var strange = []string{
	"", "-", "+", "-0", "+0", "+1", "-1", "00", "000", "0x1", "1.", "1e2", "1_0", ".5", "T", "V", "B", "Q", "S", "K", "M", "I", "WORD", "NAME", "SHIPS", "SAYS",
	"9223372036854775807", "9223372036854775808", "18446744073709551617", "340282366920938463463374607431768211457", "-9223372036854775809",
	of("1", 30), of("9", 900), "A", "a-b", "a_b", "é", "１", "١", "\xff", "\x80", "\x00", "1\x00", "\x001", "a\x00", "1\r", "\t1", "1\t", "\u2028", "\ufffd", "a\u0300", "1\v", "{", "`", "/", ":", "@", "[", "01", "007", "1 1",
}

// mayNotBe are words that may not stand in a place: one beyond each range among them.
var mayNotBe = map[string][]string{
	"T":     {"0", "9", "01", "08", "10", "11", "18", "81", "a"},
	"V":     {"0", "100", "01", "09", "099", "101", "999", "a"},
	"B":     {"60", "61", "100", "00", "01", "059", "-1", "a"},
	"Q":     {"65536", "65537", "65540", "65600", "70000", "100000", "00", "01", "065535", "-1", "a"},
	"S":     {"0", "1", "127", "1025", "1026", "0128", "01024", "1030", "1100", "2000", "10240", "-128", "a"},
	"WORD":  {of("a", 33), of("0", 33), of("a", 64), "aA", "Aa", of("a", 31) + "B", "a.", "ä", of("a", 31) + "é"},
	"NAME":  {"abcdefghi", of("a", 9), of("a", 32), "Home", "homE", "a1", "1a", "1", "0", "home1", "a.", "ä", "hömé", "abcdefgé"},
	"K":     {"0", "17", "18", "20", "01", "016", "100", "160", "-1", "a", "x"},
	"M":     {"9", "10", "00", "01", "08", "80", "-1", "a", "x"},
	"I":     {"24", "25", "30", "00", "01", "023", "230", "100", "-1", "a", "x"},
	"SHIPS": {"5", "9", "x", "015", "51", "1x", "x1", of("1", 21), of("0", 21), of("4", 40), "-1", "a", "1é"},
	"SAYS":  {"3", "5", "9", "03", "31", "1y", "X", "0X", of("1", 9), of("x", 9), of("0", 21), "-1", "a", "1é"},
}

// sampleLine is a line of a form, whose place i has a word.
func sampleLine(form string, i int, word string) string {
	words := strings.Split(form, " ")
	for k, w := range words {
		if may := mayBe[w]; may != nil {
			words[k] = may[len(may)/2]
		}
	}
	if i >= 0 {
		words[i] = word
	}
	return strings.Join(words, " ")
}

// asScript lays a line where it belongs; its number there.
func asScript(form, line string) (string, int) {
	if form == "disk S" {
		return line + "\n", 1
	}
	return first + "note\n" + line + "\naudit\n", 3
}

func TestN1EachPlaceOfEachLine(t *testing.T) {
	for _, form := range formTable {
		for i, place := range strings.Split(form, " ") {
			for _, word := range mayBe[place] {
				s, _ := asScript(form, sampleLine(form, i, word))
				takes(t, s)
			}
			for _, word := range mayNotBe[place] {
				s, at := asScript(form, sampleLine(form, i, word))
				refuses(t, s, api.ErrTownLine, at)
			}
		}
	}
}

func TestN1StrangeWords(t *testing.T) {
	for _, form := range formTable {
		for i, place := range strings.Split(form, " ") {
			for _, word := range strange {
				// Some of them are WORDs, SHIPS or SAYS.
				if oracleOf(place).MatchString(word) {
					continue
				}
				s, at := asScript(form, sampleLine(form, i, word))
				refuses(t, s, api.ErrTownLine, at)
			}
		}
	}
}

// Words of a line that stand for themselves.
func TestN1WordsThatStandForThemselves(t *testing.T) {
	for _, form := range formTable {
		for i, place := range strings.Split(form, " ") {
			if mayBe[place] != nil {
				continue
			}
			for _, word := range []string{strings.ToUpper(place), strings.ToUpper(place[:1]) + place[1:], place + "s", place[1:], place[:len(place)-1], place + "\x00", "\ufeff" + place, "x", "vole", "1"} {
				s, at := asScript(form, sampleLine(form, i, word))
				if word != place && !anyOf(oracle(), sampleLine(form, i, word)) {
					refuses(t, s, api.ErrTownLine, at)
				}
			}
		}
	}
	// A form of one tenant's is not the admin's, nor the other way round, nor everybody's.
	for _, line := range []string{
		"admin vol 1", "admin stat", "admin write 1 0 a", "admin read 1 0", "admin trim 1 0", "admin save a 1", "admin more a 1", "admin load a 1", "admin link", "admin say a 1", "admin note",
		"1 add 1 1", "1 add 1", "1 power", "1 audit", "1 totals", "1 split a 1 1", "1 lose a 0", "1 note", "1 ship 1", "1 promote",
		"save a 1", "more a 1", "load a 1", "link", "say a 1", "disk", "disk 128 128", "128", "ship", "split a", "lose a", "1 save 1 a", "split 1 1 a", "lose 0 a", "1 say 1 a",
	} {
		refuses(t, first+line+"\n", api.ErrTownLine, 2)
	}
}

func TestN1AWordTooFewOrTooMany(t *testing.T) {
	for _, form := range formTable {
		line := sampleLine(form, -1, "")
		words := strings.Split(line, " ")
		wrong := []string{line + " 1", line + " a", line + " " + line, "1 " + line, "admin " + line, strings.Join(words[1:], " "), strings.Join(words[:len(words)-1], " ")}
		for i := range words {
			less := strings.Join(append(append([]string{}, words[:i]...), words[i+1:]...), " ")
			more := strings.Join(append(append(append([]string{}, words[:i]...), words[i]), words[i:]...), " ")
			wrong = append(wrong, less, more)
		}
		for _, w := range wrong {
			s, at := asScript(form, w)
			refuses(t, s, api.ErrTownLine, at)
		}
	}
}

func TestN1SpacesAndSigns(t *testing.T) {
	for _, form := range formTable {
		line := sampleLine(form, -1, "")
		wrong := []string{" " + line, line + " ", "  " + line, line + "  ", "\t" + line, line + "\t", line + "\r", "\r" + line, line + "\x00", "\x00" + line, line + "\xff", "\u00a0" + line, line + "\u00a0", line + "\u2003", "\ufeff" + line, strings.ToUpper(line), ""}
		if strings.Contains(line, " ") {
			wrong = append(wrong, strings.ReplaceAll(line, " ", "  "), strings.Replace(line, " ", "\t", 1), strings.ReplaceAll(line, " ", ""), strings.Replace(line, " ", "\u00a0", 1), strings.Replace(line, " ", " \u0301", 1), strings.Replace(line, " ", "\r ", 1))
		}
		for _, w := range wrong {
			s, at := asScript(form, w)
			refuses(t, s, api.ErrTownLine, at)
		}
	}
	for _, line := range []string{"", " ", "  ", "          ", "\r", "\x00", "\t", "\xff", "\xc3\xa9", "#", "// note", "note;", "-"} {
		refuses(t, first+line+"\n", api.ErrTownLine, 2)
		refuses(t, line+"\n", api.ErrTownLine, 1)
	}
	// A line that is right in all but one byte, whichever that is.
	for b := range 256 {
		s := "note" + string([]byte{byte(b)})
		if b != '\n' {
			refuses(t, first+s+"\n", api.ErrTownLine, 2)
		}
		refuses(t, first+"1 write 1 0 "+string([]byte{byte(b)})+" \n", api.ErrTownLine, 2)
	}
	// A line feed within a line makes two of it.
	refuses(t, "disk\n128\n", api.ErrTownLine, 1)
	refuses(t, first+"1\nlink\n", api.ErrTownLine, 2)
	refuses(t, first+"note\n\nnote\n", api.ErrTownLine, 3)
}

// Each byte as the only one of a word, and among others.
func TestN1EachByteOfAWord(t *testing.T) {
	const small = "abcdefghijklmnopqrstuvwxyz"
	for b := range 256 {
		if b == '\n' {
			continue
		}
		sign := string([]byte{byte(b)})
		for _, x := range []struct {
			line string
			may  bool
		}{
			{"1 say " + sign + " 1", strings.Contains(small+"0123456789", sign)},
			{"1 say a" + sign + "b 1", strings.Contains(small+"0123456789", sign)},
			{"1 say a " + sign, strings.Contains("0124x", sign)},
			{"1 say a 1" + sign + "0", strings.Contains("0124x", sign)},
			{"ship " + sign, strings.Contains("01234", sign)},
			{"ship 1" + sign + "0", strings.Contains("01234", sign)},
			{"lose " + sign + " 0", strings.Contains(small, sign)},
			{"1 save a" + sign + "b 1", strings.Contains(small, sign)},
			{"split a " + sign + " 1", strings.Contains("123456789", sign)},
			{"split a 1 " + sign, strings.Contains("012345678", sign)},
			{"lose a " + sign, strings.Contains("0123456789", sign)},
			{sign + " link", strings.Contains("12345678", sign)},
		} {
			if x.may {
				takes(t, first+x.line+"\n")
			} else {
				refuses(t, first+x.line+"\n", api.ErrTownLine, 2)
			}
		}
	}
}
