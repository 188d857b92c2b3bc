package world_test

import (
	"strings"
	"testing"

	"strongbox/api"
	"strongbox/world"
)

const first = "disk 128\n"

// refuses runs a script that may not be played.
func refuses(t *testing.T, script string, want api.Errno, line int) {
	t.Helper()
	if s, e, at := world.Run(script); s != "" || e != want || at != line {
		t.Errorf("Run(%.80q) = %.80q, %d, %d, want %d, %d", script, s, e, at, want, line)
	}
}

// takes runs a script that may be played: a line for each.
func takes(t *testing.T, script string) {
	t.Helper()
	s, e, at := world.Run(script)
	if e != api.OK || at != 0 || strings.Count(s, "\n") != strings.Count(script, "\n") || !strings.HasSuffix(s, "\n") {
		t.Errorf("Run(%.80q) = %.80q, %d, %d", script, s, e, at)
	}
}

// rawOf is a line of so many bytes, line feed and all.
func rawOf(size int) string { return "1 raw " + strings.Repeat("0", size-7) + "\n" }

// longScript is one of so many bytes, from 3997 on, that is right but for its length.
func longScript(size int) string {
	s := first + strings.Repeat(rawOf(807), 4)
	if (size-len(s))%2 == 0 {
		s += "acts\n"
	}
	return s + rawOf(size-len(s))
}

func TestW1Bytes(t *testing.T) {
	for _, size := range []int{3998, 3999, 4000} {
		if len(longScript(size)) != size {
			t.Fatalf("%d bytes", len(longScript(size)))
		}
		takes(t, longScript(size))
	}
	for _, size := range []int{4001, 4002} {
		refuses(t, longScript(size), api.ErrWorldLong, 0)
	}
	for _, size := range []int{3999, 4000} {
		refuses(t, strings.Repeat("x", size), api.ErrWorldLine, 1)
		refuses(t, strings.Repeat("\n", size), api.ErrWorldLine, 1)
		refuses(t, strings.Repeat(" ", size), api.ErrWorldLine, 1)
		refuses(t, first+strings.Repeat(" ", size-10)+"\n", api.ErrWorldLine, 2)
		refuses(t, first+strings.Repeat("1", size-10)+"\n", api.ErrWorldLine, 2)
	}
	// That it is too long is told ahead of any line.
	for _, size := range []int{4001, 5000000} {
		for _, sign := range []string{"x", "\n", " ", "\xff", "\x00"} {
			refuses(t, strings.Repeat(sign, size), api.ErrWorldLong, 0)
		}
	}
	refuses(t, "power\n"+longScript(4001), api.ErrWorldLong, 0)
	refuses(t, "", api.ErrWorldLine, 1)
}

func TestW1Lines(t *testing.T) {
	takes(t, first)
	for _, n := range []int{1, 2, 118, 119} {
		takes(t, first+strings.Repeat("acts\n", n))
		refuses(t, first+strings.Repeat("acts\n", n)+"acts", api.ErrWorldLine, n+2)
		refuses(t, first+strings.Repeat("acts\n", n)+" ", api.ErrWorldLine, n+2)
	}
	for _, n := range []int{120, 121, 500} {
		refuses(t, first+strings.Repeat("acts\n", n), api.ErrWorldLine, 121)
		refuses(t, first+strings.Repeat("acts\n", n)+"acts", api.ErrWorldLine, 121)
		refuses(t, first+strings.Repeat("acts\n", n)+"x\n", api.ErrWorldLine, 121)
	}
	refuses(t, first+strings.Repeat("acts\n", 119)+"x\n", api.ErrWorldLine, 121)
	refuses(t, first+strings.Repeat("acts\n", 119)+first, api.ErrWorldLine, 121)
	refuses(t, first+strings.Repeat("acts\n", 118)+"x\nacts\n", api.ErrWorldLine, 120)
	refuses(t, first+"x\n"+strings.Repeat("acts\n", 200), api.ErrWorldLine, 2)
}

func TestW1TheLastLineHasALineFeed(t *testing.T) {
	for _, s := range []string{"disk 128", "disk 12", "d", " ", "x"} {
		refuses(t, s, api.ErrWorldLine, 1)
	}
	for _, s := range []string{"power", "power ", "powe", " ", "p", "\r", "\x00", "\xff", "1 raw 0", "disk 128"} {
		refuses(t, first+s, api.ErrWorldLine, 2)
		refuses(t, first+"acts\n"+s, api.ErrWorldLine, 3)
	}
}

func TestW1TheFirstLineIsDiskAndNoOther(t *testing.T) {
	for _, s := range []string{"power", "acts", "audit", "totals", "admin add 1 1", "1 stat", "arm 1 1", "domain 1 d", "1 raw 00", ""} {
		refuses(t, s+"\n", api.ErrWorldLine, 1)
		refuses(t, s+"\n"+first, api.ErrWorldLine, 1)
	}
	refuses(t, first+first, api.ErrWorldLine, 2)
	refuses(t, first+"disk 1024\n", api.ErrWorldLine, 2)
	refuses(t, first+"acts\n"+first+"acts\n", api.ErrWorldLine, 3)
	refuses(t, first+"acts\nacts\nacts\ndisk 200\n", api.ErrWorldLine, 5)
}

// Where several lines may not be, the first one is told, whatever is wrong with it.
func TestW1TheFirstOfSeveral(t *testing.T) {
	wrong := []string{"nothing", "", " ", "disk 128", "1 vol 0", "acts acts", "1 raw 0", "power\r", "\xff\xfe", "arm 0 0"}
	for i, a := range wrong {
		for _, b := range wrong {
			ahead := strings.Repeat("audit\n", i)
			refuses(t, first+ahead+a+"\nacts\n"+b+"\n", api.ErrWorldLine, i+2)
			refuses(t, first+ahead+a+"\n"+b, api.ErrWorldLine, i+2)
			if b+"\n" != first {
				refuses(t, b+"\n"+first+a+"\n", api.ErrWorldLine, 1)
			}
		}
	}
}

// formTable are the lines of the document's table.
var formTable = []string{
	"disk S", "admin add T Q", "admin remove T", "admin look T", "T vol V", "T unvol V", "T vols", "T stat", "T write V B WORD",
	"T read V B", "T trim V B", "T raw HEX", "domain T WORD", "arm N BITS", "power", "audit", "totals", "acts",
}

func of(sign string, n int) string { return strings.Repeat(sign, n) }

// mayBe are words that may stand in a place: both ends of each range among them.
var mayBe = map[string][]string{
	"T":    {"1", "2", "7", "8"},
	"V":    {"1", "2", "9", "10", "98", "99"},
	"B":    {"0", "1", "9", "10", "58", "59"},
	"Q":    {"0", "1", "83", "9999", "10000", "65534", "65535"},
	"S":    {"128", "129", "300", "999", "1000", "1023", "1024"},
	"N":    {"1", "2", "10", "998", "999"},
	"WORD": {"a", "z", "0", "9", "007", of("a", 31), of("z", 32), of("0", 32), "abc123", "power", "admin"},
	"BITS": {"0", "1", "01", "10", of("0", 19), of("1", 20), of("0", 20)},
	"HEX":  {"00", "ff", "0a", "af09", of("0", 798), of("f", 800), of("9", 800)},
}

// strange are words that may stand nowhere, or in few places.
var strange = []string{
	"", "-", "+", "-0", "+0", "+1", "-1", "00", "000", "0x1", "1.", "1e2", "1_0", ".5", "T", "V", "B", "Q", "S", "N", "WORD", "BITS", "HEX",
	"9223372036854775807", "9223372036854775808", "18446744073709551617", "340282366920938463463374607431768211457", "-9223372036854775809",
	of("1", 30), of("9", 900), "A", "a-b", "a_b", "é", "１", "١", "\xff", "\x80", "\x00", "1\x00", "\x001", "1\r", "\t1", "1\t", "\u2028", "\ufffd", "a\u0300", "1\v", "{", "`", "/", ":", "@", "[",
}

// mayNotBe are words that may not stand in a place: one beyond each range among them.
var mayNotBe = map[string][]string{
	"T":    {"0", "9", "01", "08", "10", "11", "18", "81", "a"},
	"V":    {"0", "100", "01", "09", "099", "101", "999", "a"},
	"B":    {"60", "61", "100", "00", "01", "059", "-1", "a"},
	"Q":    {"65536", "65537", "65540", "65600", "70000", "100000", "00", "01", "065535", "-1", "a"},
	"S":    {"0", "1", "127", "1025", "1026", "0128", "01024", "1030", "1100", "2000", "10240", "-128", "a"},
	"N":    {"0", "1000", "1001", "01", "0999", "9999", "a"},
	"WORD": {of("a", 33), of("0", 33), of("a", 64), "aA", "Aa", of("a", 31) + "B", "a.", "ä", of("a", 31) + "é"},
	"BITS": {"2", "01a", "012", "210", of("0", 21), of("1", 21), "-1", "a"},
	"HEX":  {"0", "000", "f", "abc", of("0", 799), of("0", 801), of("0", 802), of("f", 1000), "0A", "FF", "0g", "g0", "0x", "0 0", "zz", "é"},
}

// sampleLine is a line of a form, whose place i has a word.
func sampleLine(form string, i int, word string) string {
	words := strings.Split(form, " ")
	for k, w := range words {
		if may := mayBe[w]; may != nil {
			words[k] = may[len(may)/2]
		}
	}
	if i >= 0 {
		words[i] = word
	}
	return strings.Join(words, " ")
}

// asScript lays a line where it belongs; its number there.
func asScript(form, line string) (string, int) {
	if form == "disk S" {
		return line + "\n", 1
	}
	return first + "acts\n" + line + "\naudit\n", 3
}

func TestW1EachPlaceOfEachLine(t *testing.T) {
	for _, form := range formTable {
		for i, place := range strings.Split(form, " ") {
			for _, word := range mayBe[place] {
				s, _ := asScript(form, sampleLine(form, i, word))
				takes(t, s)
			}
			for _, word := range mayNotBe[place] {
				s, at := asScript(form, sampleLine(form, i, word))
				refuses(t, s, api.ErrWorldLine, at)
			}
		}
	}
}

func TestW1StrangeWords(t *testing.T) {
	for _, form := range formTable {
		for i, place := range strings.Split(form, " ") {
			for _, word := range strange {
				// Some of them are WORDs, or HEX.
				if oracleOf(place).MatchString(word) {
					continue
				}
				s, at := asScript(form, sampleLine(form, i, word))
				refuses(t, s, api.ErrWorldLine, at)
			}
		}
	}
}

// Words of a line that stand for themselves.
func TestW1WordsThatStandForThemselves(t *testing.T) {
	for _, form := range formTable {
		for i, place := range strings.Split(form, " ") {
			if mayBe[place] != nil {
				continue
			}
			for _, word := range []string{strings.ToUpper(place), strings.ToUpper(place[:1]) + place[1:], place + "s", place[1:], place[:len(place)-1], place + "\x00", "\ufeff" + place, "x", "vole", "1"} {
				if strings.Contains(form, "vol") && (word == "vols" || word == "vol") || word == place {
					continue
				}
				s, at := asScript(form, sampleLine(form, i, word))
				refuses(t, s, api.ErrWorldLine, at)
			}
		}
	}
	// A form of one tenant's is not the admin's, nor the other way round.
	for _, line := range []string{"admin vol 1", "admin vols", "admin stat", "admin write 1 0 a", "admin read 1 0", "admin trim 1 0", "admin raw 00", "1 add 1 1", "1 add 1", "1 remove 1", "1 look 1", "1 power", "1 audit", "1 arm 1 1", "1 domain d", "disk", "disk 128 128", "128"} {
		refuses(t, first+line+"\n", api.ErrWorldLine, 2)
	}
}

func TestW1AWordTooFewOrTooMany(t *testing.T) {
	for _, form := range formTable {
		line := sampleLine(form, -1, "")
		words := strings.Split(line, " ")
		wrong := []string{line + " 1", line + " a", line + " " + line, "1 " + line, "admin " + line, strings.Join(words[1:], " "), strings.Join(words[:len(words)-1], " ")}
		for i := range words {
			less := strings.Join(append(append([]string{}, words[:i]...), words[i+1:]...), " ")
			more := strings.Join(append(append(append([]string{}, words[:i]...), words[i]), words[i:]...), " ")
			wrong = append(wrong, less, more)
		}
		for _, w := range wrong {
			s, at := asScript(form, w)
			refuses(t, s, api.ErrWorldLine, at)
		}
	}
}

func TestW1SpacesAndSigns(t *testing.T) {
	for _, form := range formTable {
		line := sampleLine(form, -1, "")
		wrong := []string{" " + line, line + " ", "  " + line, line + "  ", "\t" + line, line + "\t", line + "\r", "\r" + line, line + "\x00", "\x00" + line, line + "\xff", "\u00a0" + line, line + "\u00a0", line + "\u2003", "\ufeff" + line, strings.ToUpper(line), ""}
		if strings.Contains(line, " ") {
			wrong = append(wrong, strings.ReplaceAll(line, " ", "  "), strings.Replace(line, " ", "\t", 1), strings.ReplaceAll(line, " ", ""), strings.Replace(line, " ", "\u00a0", 1), strings.Replace(line, " ", " \u0301", 1), strings.Replace(line, " ", "\r ", 1))
		}
		for _, w := range wrong {
			s, at := asScript(form, w)
			refuses(t, s, api.ErrWorldLine, at)
		}
	}
	for _, line := range []string{"", " ", "  ", "          ", "\r", "\x00", "\t", "\xff", "\xc3\xa9", "#", "// acts", "acts;", "-"} {
		refuses(t, first+line+"\n", api.ErrWorldLine, 2)
		refuses(t, line+"\n", api.ErrWorldLine, 1)
	}
	// A line that is right in all but one byte, whichever that is.
	for b := range 256 {
		s := "acts" + string([]byte{byte(b)})
		if b != '\n' {
			refuses(t, first+s+"\n", api.ErrWorldLine, 2)
		}
		refuses(t, first+"1 write 1 0 "+string([]byte{byte(b)})+" \n", api.ErrWorldLine, 2)
	}
	// A line feed within a line makes two of it.
	refuses(t, "disk\n128\n", api.ErrWorldLine, 1)
	refuses(t, first+"1\nstat\n", api.ErrWorldLine, 2)
	refuses(t, first+"acts\n\nacts\n", api.ErrWorldLine, 3)
}

// Each byte as the only one of a WORD, of BITS, and as one of two of HEX.
func TestW1EachByteOfAWord(t *testing.T) {
	for b := range 256 {
		if b == '\n' {
			continue
		}
		sign := string([]byte{byte(b)})
		for _, x := range []struct {
			line string
			may  bool
		}{
			{"domain 1 " + sign, strings.Contains("abcdefghijklmnopqrstuvwxyz0123456789", sign)},
			{"domain 1 a" + sign + "b", strings.Contains("abcdefghijklmnopqrstuvwxyz0123456789", sign)},
			{"arm 1 " + sign, strings.Contains("01", sign)},
			{"1 raw 0" + sign, strings.Contains("0123456789abcdef", sign)},
			{"1 raw " + sign + "0", strings.Contains("0123456789abcdef", sign)},
			{sign + " vols", strings.Contains("12345678", sign)},
		} {
			if x.may {
				takes(t, first+x.line+"\n")
			} else {
				refuses(t, first+x.line+"\n", api.ErrWorldLine, 2)
			}
		}
	}
}
