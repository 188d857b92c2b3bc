package world_test

import (
	"fmt"
	"slices"
	"strings"
	"testing"

	"strongbox/api"
)

func TestW3Disks(t *testing.T) {
	for _, x := range []struct{ sectors, data int }{{128, 85}, {129, 86}, {130, 87}, {133, 90}, {134, 90}, {135, 91}, {1023, 850}, {1024, 851}} {
		tells(t, []string{fmt.Sprintf("disk %d", x.sectors)}, []string{fmt.Sprintf("sectors %d data %d", x.sectors, x.data)})
	}
	for sectors := 128; sectors <= 1024; sectors += 13 {
		n := roomFor(sectors)
		add := fmt.Sprintf("admin add 1 %d", n-2)
		tells(t, []string{fmt.Sprintf("disk %d", sectors), add, "admin add 2 1", "totals", "audit"}, []string{
			fmt.Sprintf("sectors %d data %d", sectors, n), "done", "noroom",
			fmt.Sprintf("chunks 0 pages 0 mapped 0 charged 0 promised %d capacity %d", n-2, n-2), "findings 0",
		})
	}
}

func TestW3Admin(t *testing.T) {
	plays(t, `
disk 128             | sectors 128 data 85
admin look 1         | notenant
admin remove 1       | notenant
admin add 1 84       | noroom
admin add 1 65535    | noroom
admin add 1 83       | done
admin add 1 83       | exists
admin add 1 65535    | exists
admin add 1 0        | exists
admin add 2 1        | noroom
admin add 2 0        | done
admin add 8 0        | done
admin look 1         | done quota 83 charge 0 volumes -
admin look 2         | done quota 0 charge 0 volumes -
admin look 3         | notenant
1 vol 7              | done
admin look 1         | done quota 83 charge 1 volumes 7
1 vol 99             | done
1 vol 1              | done
admin look 1         | done quota 83 charge 3 volumes 1,7,99
admin remove 1       | notempty
1 unvol 1            | done
1 unvol 7            | done
admin remove 1       | notempty
1 unvol 99           | done
admin remove 1       | done
admin remove 1       | notenant
admin look 1         | notenant
admin add 3 80       | done
admin add 1 4        | noroom
admin add 1 3        | done
admin remove 8       | done
totals               | chunks 0 pages 0 mapped 0 charged 0 promised 83 capacity 83
audit                | findings 0
`)
}

func TestW3Volumes(t *testing.T) {
	plays(t, `
disk 128             | sectors 128 data 85
1 vol 1              | notenant
1 unvol 1            | notenant
1 vols               | notenant
1 stat               | notenant
admin add 1 9        | done
admin add 2 2        | done
1 vols               | done -
1 stat               | done quota 9 charge 0
1 unvol 1            | novolume
1 vol 50             | done
1 vols               | done 50
1 vol 50             | exists
1 vol 8              | done
1 vol 99             | done
1 vol 1              | done
1 vols               | done 1,8,50,99
1 vol 2              | done
1 vol 3              | done
1 vol 4              | done
1 vol 5              | done
1 vols               | done 1,2,3,4,5,8,50,99
1 vol 99             | exists
1 vol 98             | toomany
1 stat               | done quota 9 charge 8
2 vol 1              | done
2 vol 2              | done
2 vol 3              | overquota
2 vol 2              | exists
2 vols               | done 1,2
2 stat               | done quota 2 charge 2
1 unvol 8            | done
1 unvol 8            | novolume
1 vol 98             | done
1 write 1 0 a        | overquota
1 unvol 98           | done
1 write 1 0 a        | done uploaded
1 unvol 1            | notempty
1 vol 98             | overquota
1 vols               | done 1,2,3,4,5,50,99
1 stat               | done quota 9 charge 9
1 trim 1 0           | done
1 unvol 1            | done
audit                | findings 0
`)
}

func TestW3Blocks(t *testing.T) {
	plays(t, `
disk 128             | sectors 128 data 85
1 write 1 0 a        | notenant
1 read 1 0           | notenant
1 trim 1 0           | notenant
admin add 1 8        | done
1 write 1 0 a        | novolume
1 read 1 0           | novolume
1 trim 1 0           | novolume
1 vol 1              | done
1 read 1 0           | unmapped
1 trim 1 0           | unmapped
1 write 1 0 a        | done uploaded
1 read 1 0           | done a
1 read 1 59          | unmapped
1 write 1 0 a        | done proved
1 write 1 1 a        | done proved
1 write 1 59 a       | done proved
1 stat               | done quota 8 charge 6
1 write 1 58 b       | done uploaded
1 write 1 57 c       | done uploaded
1 stat               | done quota 8 charge 8
1 write 1 2 a        | overquota
1 write 1 30 a       | overquota
1 write 1 0 b        | done proved
1 write 1 1 d        | done uploaded
1 read 1 0           | done b
1 read 1 1           | done d
1 read 1 2           | unmapped
1 read 1 59          | done a
1 trim 1 59          | done
1 trim 1 59          | unmapped
1 read 1 59          | unmapped
1 write 1 30 a       | overquota
1 write 1 2 a        | done uploaded
1 read 2 0           | novolume
1 write 2 0 a        | novolume
1 trim 2 0           | novolume
totals               | chunks 4 pages 3 mapped 5 charged 8 promised 8 capacity 83
audit                | findings 0
`)
}

// Words that are read as they were written, up to the longest.
func TestW3Words(t *testing.T) {
	lines := []string{"disk 128", "admin add 1 20", "1 vol 99"}
	want := []string{"sectors 128 data 85", "done", "done"}
	for i, word := range []string{"a", "0", "z", "9", "00", "007", "x0x", of("a", 31), of("a", 32), of("0", 32), "abcdefghijklmnopqrstuvwxyz012345"} {
		at := fmt.Sprintf("99 %d", i)
		lines = append(lines, "1 write "+at+" "+word, "1 read "+at)
		want = append(want, "done uploaded", "done "+word)
	}
	tells(t, lines, want)
	agrees(t, lines)
}

// Blocks that no line `write` has written, told as `?` if they are no WORD and noughts.
func TestW3BlocksThatAreNoWords(t *testing.T) {
	for plain, told := range map[string]string{
		blockOf("word"): "done word", blockOf(of("w", 32)): "done " + of("w", 32), blockOf("a"): "done a",
		noughts(256): "done ?", blockOf(of("w", 33)): "done ?", of("w", 256): "done ?", noughts(255) + "a": "done ?", noughts(1) + blockOf("a")[:255]: "done ?",
		blockOf("a\x00b"): "done ?", blockOf("A"): "done ?", blockOf("a b"): "done ?", blockOf(" a"): "done ?", blockOf("a "): "done ?", blockOf("a\n"): "done ?",
		blockOf("?"): "done ?", blockOf("-"): "done ?", blockOf("\xff"): "done ?", blockOf("é"): "done ?", blockOf("a\x01"): "done ?", of("\x01", 256): "done ?", blockOf("\x7f"): "done ?", blockOf(of("é", 16)): "done ?",
	} {
		lines := []string{"disk 128", "admin add 1 20", "1 vol 3", rawUpload(1, 3, 7, "d", plain), "1 read 3 7", "audit"}
		tells(t, lines, []string{"sectors 128 data 85", "done", "done", rawReply(10, bare(api.Done)), told, "findings 0"})
		agrees(t, lines)
	}
}

func TestW3WhatIsLost(t *testing.T) {
	// By another domain.
	plays(t, `
disk 128             | sectors 128 data 85
admin add 1 20       | done
1 vol 1              | done
1 write 1 0 same     | done uploaded
domain 1 o           | ok
1 read 1 0           | lost
1 read 1 0           | lost
1 write 1 1 same     | done uploaded
1 read 1 1           | done same
domain 2 d           | ok
1 read 1 1           | done same
domain 1 dd          | ok
1 read 1 1           | lost
domain 1 d           | ok
1 read 1 0           | done same
1 read 1 1           | lost
1 write 1 1 same     | done proved
1 read 1 1           | done same
1 trim 1 0           | done
1 read 1 0           | unmapped
domain 1 o           | ok
1 trim 1 1           | done
totals               | chunks 0 pages 1 mapped 0 charged 1 promised 20 capacity 83
audit                | findings 0
`)
	// By a key that was wrapped for another place, or by another's master, or a chunk that is not its key's.
	data, key := sealed(domainOf("d"), blockOf("word"))
	other, _ := sealed(domainOf("d"), blockOf("other"))
	right := wrapped(masterOf(1), 1, 0, key)
	for _, b := range []block{
		{data, wrapped(masterOf(1), 1, 1, key)}, {data, wrapped(masterOf(1), 2, 0, key)}, {data, wrapped(masterOf(2), 1, 0, key)},
		{other, right}, {noughts(256), right}, {data, noughts(48)}, {data[:255] + string([]byte{data[255] ^ 1}), right}, {data, right[:47] + string([]byte{right[47] ^ 128})},
	} {
		lines := []string{"disk 128", "admin add 1 20", "1 vol 1", rawLine(1, api.Request{Kind: 10, Volume: 1, Block: 0, Wrapped: b.wrapped, Data: b.data}), "1 read 1 0", "1 write 1 0 a", "1 read 1 0"}
		tells(t, lines, []string{"sectors 128 data 85", "done", "done", rawReply(10, bare(api.Done)), "lost", "done uploaded", "done a"})
		agrees(t, lines)
	}
}

// The eight tenants have each a master of their own: what one has wrapped no other one unwraps.
func TestW3EachTenantHasItsOwnMaster(t *testing.T) {
	for k := 1; k <= 8; k++ {
		data, key := sealed(domainOf("d"), blockOf("mine"))
		line := rawLine(3, api.Request{Kind: 10, Volume: 4, Block: 5, Wrapped: wrapped(masterOf(k), 4, 5, key), Data: data})
		told := "lost"
		if k == 3 {
			told = "done mine"
		}
		tells(t, []string{"disk 128", "admin add 3 9", "3 vol 4", line, "3 read 4 5"}, []string{"sectors 128 data 85", "done", "done", rawReply(10, bare(api.Done)), told})
	}
}

func TestP7OneCopy(t *testing.T) {
	plays(t, `
disk 128             | sectors 128 data 85
admin add 1 20       | done
admin add 2 20       | done
admin add 3 20       | done
1 vol 1              | done
2 vol 1              | done
3 vol 1              | done
1 write 1 0 same     | done uploaded
2 write 1 0 same     | done proved
domain 3 other       | ok
3 write 1 0 same     | done uploaded
totals               | chunks 2 pages 6 mapped 3 charged 9 promised 60 capacity 83
3 write 1 1 same     | done proved
1 write 1 1 same     | done proved
1 write 1 2 own      | done uploaded
2 write 1 59 own     | done proved
totals               | chunks 3 pages 7 mapped 7 charged 14 promised 60 capacity 83
1 trim 1 0           | done
1 trim 1 1           | done
totals               | chunks 3 pages 7 mapped 5 charged 12 promised 60 capacity 83
2 read 1 0           | done same
2 trim 1 0           | done
totals               | chunks 2 pages 6 mapped 4 charged 10 promised 60 capacity 83
2 write 1 0 same     | done uploaded
domain 3 d           | ok
3 write 1 0 same     | done proved
3 write 1 1 same     | done proved
totals               | chunks 2 pages 7 mapped 5 charged 12 promised 60 capacity 83
audit                | findings 0
`)
}

// A domain's word is the whole of it, and a word that is a digit, or as long as one may be, is none but itself.
func TestW3Domains(t *testing.T) {
	words := []string{"d", "dd", "0", "1", of("d", 32), of("d", 31), "domain"}
	lines := []string{"disk 128", "admin add 1 40", "1 vol 1"}
	for i, w := range words {
		lines = append(lines, "domain 1 "+w, fmt.Sprintf("1 write 1 %d same", i), fmt.Sprintf("1 read 1 %d", i))
	}
	for i, w := range words {
		lines = append(lines, "domain 1 "+w)
		for k := range words {
			lines = append(lines, fmt.Sprintf("1 read 1 %d", k))
		}
		lines = append(lines, fmt.Sprintf("1 write 1 %d same", 10+i))
	}
	told := agrees(t, lines)
	count := map[string]int{}
	for _, s := range told {
		count[s]++
	}
	if count["done uploaded"] != 7 || count["done proved"] != 7 || count["done same"] != 14 || count["lost"] != 42 {
		t.Errorf("it is told %v", count)
	}
}

// eachKind are lines of each kind, one behind the other, with what is told of each, and how many acts it does.
const eachKind = `
admin add 1 9  | done      | 38
acts           | acts 0    |  0
admin add 1 9  | exists    |  0
admin add 2 99 | noroom    |  0
admin look 1   | done quota 9 charge 0 volumes - | 0
admin add 2 0  | done      | 38
admin remove 2 | done      | 38
admin remove 2 | notenant  |  0
1 vol 1        | done      | 38
1 vol 1        | exists    |  0
2 vol 1        | notenant  |  0
admin remove 1 | notempty  |  0
1 vols         | done 1    |  0
1 stat         | done quota 9 charge 1 | 0
1 write 1 0 a  | done uploaded | 38
1 write 1 0 a  | done proved | 38
1 write 1 1 a  | done proved | 38
1 write 1 1 b  | done uploaded | 38
1 write 2 1 b  | novolume  |  0
1 read 1 1     | done b    |  0
1 read 1 2     | unmapped  |  0
domain 1 o     | ok        |  0
1 read 1 1     | lost      |  0
domain 1 d     | ok        |  0
1 trim 1 1     | done      | 38
1 trim 1 1     | unmapped  |  0
1 unvol 1      | notempty  |  0
1 trim 1 0     | done      | 38
1 unvol 1      | done      | 38
1 unvol 1      | novolume  |  0
1 raw 00       | reply 03  |  0
1 raw 0706     | reply 03  |  0
audit          | findings 0 | 0
totals         | chunks 0 pages 0 mapped 0 charged 0 promised 9 capacity 83 | 0
power          | up        |  0
arm 999 0      | ok        |  0
power          | up        |  0
1 vol 9        | done      | 38
acts           | acts 0    |  0
`

// kindsOf are the three columns of these.
func kindsOf() (lines, want, acts []string) {
	for _, l := range strings.Split(strings.TrimSpace(eachKind), "\n") {
		part := strings.Split(l, "|")
		told := strings.TrimSpace(part[1])
		if told == "reply 03" {
			told = rawReply(0, bare(api.BadFrame))
		}
		lines, want, acts = append(lines, strings.TrimSpace(part[0])), append(want, told), append(acts, strings.TrimSpace(part[2]))
	}
	return lines, want, acts
}

// acts behind each kind of line: 38 of each change that is done, none of all else.
func TestP3ActsBehindEachLine(t *testing.T) {
	lines, want := []string{"disk 128"}, []string{"sectors 128 data 85"}
	kinds, told, acts := kindsOf()
	for i, line := range kinds {
		lines, want = append(lines, line, "acts"), append(want, told[i], "acts "+acts[i])
	}
	tells(t, lines, want)
	agrees(t, lines)
}

// audit and totals behind each kind of line, and behind a death in it, if it changes something.
func TestP8AuditsBehindEachLine(t *testing.T) {
	kinds, _, acts := kindsOf()
	for i, line := range kinds {
		ahead := append([]string{"disk 128"}, kinds[:i]...)
		for _, arm := range []string{"arm 999 0", "arm 4 1", "arm 19 0", "arm 19 1", "arm 25 01", "arm 38 0", "arm 38 1"} {
			lines := append(append([]string{}, ahead...), arm, line, "audit", "totals", line, "audit", "totals")
			told := agrees(t, lines)
			died := acts[i] == "38" && arm != "arm 999 0" && !slices.Contains(ahead, "arm 999 0")
			if x := told[len(ahead)+1:]; x[1] != "findings 0" || x[4] != "findings 0" || died != (x[0] == "died 1") {
				t.Errorf("%s, %s: %v", arm, line, x)
			}
		}
	}
}

// What is not told yet is told together.
func TestW3ActsOfSeveralLines(t *testing.T) {
	plays(t, `
disk 1024            | sectors 1024 data 851
admin add 1 9        | done
1 stat               | done quota 9 charge 0
1 vol 1              | done
1 vol 1              | exists
1 vol 2              | done
acts                 | acts 114
1 write 1 0 a        | done uploaded
1 write 2 0 a        | done proved
acts                 | acts 76
acts                 | acts 0
`)
}
