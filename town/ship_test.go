package town_test

import (
	"fmt"
	"strings"
	"testing"
)

// wrote is lines that each write a word of a number to the block 0 of the volume 1, and note it.
func wrote(from, to int) string {
	s := ""
	for n := from; n <= to; n++ {
		s += fmt.Sprintf("1 write 1 0 w%d | done uploaded\nnote | noted\n", n)
	}
	return s
}

func TestN2ShipAndPromoteOfNothing(t *testing.T) {
	plays(t, `
disk 128             | sectors 128 data 85
ship 1               | nobody
ship 01234           | nobody
promote              | none
note                 | noted
promote              | none
ship 0               | replica none left 1
promote              | none
ship 0000000000      | replica none left 1
note                 | noted
note                 | noted
ship 0               | replica none left 3
promote              | none
ship 1               | replica 1 left 2
promote              | promoted 1
promote              | none
ship 1               | nobody
note                 | noted
ship 1               | replica 1 left 0
ship 1               | replica 1 left 0
ship 4               | replica 1 left 0
audit                | findings 0
`)
}

func TestN2EachDigit(t *testing.T) {
	for digit, told := range map[string]string{
		"0": "replica none left 1", "1": "replica 1 left 0", "2": "replica 1 left 0", "3": "replica 1 left 1", "4": "replica 1 left 0",
		"00": "replica none left 1", "01": "replica none left 1", "40": "replica 1 left 0", "31": "replica 1 left 1",
	} {
		plays(t, furnished+"note | noted\nship "+digit+" | "+told+"\n")
	}
	// Of two notes: the second one is a change from the first.
	for digits, told := range map[string]string{
		"0": "replica none left 2", "00": "replica none left 2", "01": "replica none left 2", "02": "replica none left 2", "03": "replica none left 2", "04": "replica none left 2",
		"1": "replica 1 left 1", "10": "replica 1 left 1", "11": "replica 2 left 0", "12": "replica 2 left 0", "13": "replica 2 left 1", "14": "replica 2 left 0",
		"2": "replica 1 left 1", "20": "replica 1 left 1", "21": "replica 2 left 0", "22": "replica 2 left 0", "23": "replica 2 left 1", "24": "replica 2 left 0",
		"3": "replica 1 left 2", "30": "replica 1 left 2", "31": "replica 2 left 0", "32": "replica 2 left 0", "33": "replica 2 left 2", "34": "replica 2 left 0",
		"4": "replica 1 left 1", "40": "replica 1 left 1", "41": "replica 1 left 1", "42": "replica 1 left 1", "43": "replica 1 left 1", "44": "replica 2 left 0",
	} {
		plays(t, furnished+wrote(1, 2)+"ship "+digits+" | "+told+"\nship "+digits+of("0", 18)+" | "+shipped(digits, digits+of("0", 18))+"\n")
	}
}

// shipped is what the model tells of two lines of two notes' frames.
func shipped(one, two string) string {
	m := begin(128)
	for _, line := range []string{"note", "note", "ship " + one} {
		m.plays(line)
	}
	return m.plays("ship " + two)
}

// Each row of digits over three notes, and each behind each: what came over is the store behind promote.
func TestN3EachRowOfDigits(t *testing.T) {
	row := func(n int) string { return fmt.Sprintf("%d%d%d", n/25, n/5%5, n%5) }
	head := []string{"disk 128", "admin add 1 40", "1 vol 1", "1 write 1 0 w1", "note", "1 write 1 0 w2", "note", "1 write 1 0 w3", "note"}
	for n := range 125 {
		lines := append(append([]string{}, head...), "ship "+row(n), "1 write 1 0 w4", "note", "ship "+row((n*37+11)%125), "ship "+row((n*17+5)%125)+"1", "promote", "1 read 1 0", "audit", "note", "ship 1", "promote", "totals")
		tells(t, lines, modelled(lines))
	}
}

// More than eight notes between two ships: only the newest one is left, as a change from what was confirmed, or whole.
func TestN2NineNotes(t *testing.T) {
	plays(t, furnished+wrote(1, 8)+`
ship 0               | replica none left 8
`+wrote(9, 9)+`
ship 0               | replica none left 1
ship 1               | replica 9 left 0
promote              | promoted 9
1 read 1 0           | done w9
`)
	plays(t, furnished+wrote(1, 1)+`
ship 1               | replica 1 left 0
`+wrote(2, 10)+`
ship 1               | replica 10 left 0
`+wrote(11, 18)+`
ship 11111111        | replica 18 left 0
`+wrote(19, 27)+`
ship 3               | replica 27 left 1
promote              | promoted 27
1 read 1 0           | done w27
`)
	// The replica has an image of which the primary knows nothing any more: so the next one comes whole.
	plays(t, furnished+wrote(1, 3)+`
ship 133             | replica 3 left 2
`+wrote(4, 10)+`
ship 1               | replica 3 left 1
1 write 1 1 v        | done uploaded
note                 | noted
ship 11              | replica 11 left 0
promote              | promoted 11
1 read 1 0           | done w10
1 read 1 1           | done v
`)
}

// Frames behind the last digit are lost; digits behind the last frame have none.
func TestN2FewerAndMoreDigitsThanFrames(t *testing.T) {
	plays(t, furnished+wrote(1, 5)+`
ship 11              | replica 2 left 3
ship 111             | replica 5 left 0
`+wrote(6, 6)+`
ship 1111            | replica 6 left 0
`+wrote(7, 8)+`
ship 44444444444444444444 | replica 8 left 0
ship 22222222222222222222 | replica 8 left 0
`+wrote(9, 10)+`
ship 0000000000000000000  | replica 8 left 2
ship 01111111111111111111 | replica 8 left 2
ship 11111111111111111111 | replica 10 left 0
`)
}

// A frame that comes behind the others has nothing to lead from by then, or all is there already.
func TestN2FourAheadOfAndBehindOthers(t *testing.T) {
	for digits, told := range map[string]string{
		"411": "replica 1 left 2", "141": "replica 2 left 1", "114": "replica 3 left 0", "441": "replica 2 left 1", "414": "replica 1 left 2", "144": "replica 3 left 0", "444": "replica 3 left 0",
		"334": "replica 3 left 0", "340": "replica 2 left 1", "430": "replica 1 left 2", "433": "replica 1 left 2", "343": "replica 2 left 1", "042": "replica none left 3", "240": "replica 2 left 1",
	} {
		plays(t, furnished+wrote(1, 3)+"ship "+digits+" | "+told+"\n")
	}
}

// An older image than the newest one: the store is what it was then.
func TestN3PromoteOfAnOlderImage(t *testing.T) {
	plays(t, `
disk 128             | sectors 128 data 85
admin add 1 30       | done
note                 | noted
1 vol 1              | done
1 write 1 0 a        | done uploaded
note                 | noted
admin add 2 30       | done
2 vol 5              | done
2 write 5 0 a        | done proved
1 vol 2              | done
1 trim 1 0           | done
note                 | noted
ship 111             | replica 3 left 0
totals               | chunks 1 pages 4 mapped 1 charged 5 promised 60 capacity 83
1 unvol 1            | done
note                 | noted
ship 0               | replica 3 left 1
promote              | promoted 3
totals               | chunks 1 pages 4 mapped 1 charged 5 promised 60 capacity 83
1 stat               | done quota 30 charge 2
1 read 1 0           | unmapped
2 read 5 0           | done a
audit                | findings 0
note                 | noted
ship 3               | replica 1 left 1
1 unvol 1            | done
2 trim 5 0           | done
power                | up
promote              | promoted 1
2 read 5 0           | done a
1 unvol 1            | done
audit                | findings 0
`)
	plays(t, `
disk 128             | sectors 128 data 85
note                 | noted
admin add 1 30       | done
1 vol 1              | done
1 write 1 0 a        | done uploaded
note                 | noted
ship 1               | replica 1 left 1
promote              | promoted 1
1 read 1 0           | notenant
totals               | chunks 0 pages 0 mapped 0 charged 0 promised 0 capacity 83
admin add 1 30       | done
1 vol 1              | done
1 write 1 0 a        | done uploaded
`)
}

// Behind promote the archives and the links are what they were, and the clients, too.
func TestN2WhatPromoteLetsBe(t *testing.T) {
	plays(t, furnished+`
1 write 1 0 a        | done uploaded
note                 | noted
1 link               | linked
1 say x 4            | -
1 write 1 0 b        | done uploaded
1 write 1 9 c        | done uploaded
1 save home 1        | saved 2
1 save away 1        | saved 2
split away 1 1       | shards 2
ship 1               | replica 1 left 0
promote              | promoted 1
1 say y 1            | x,y
1 read 1 9           | unmapped
1 read 1 0           | done a
1 more home 1        | changed 1 1
1 load away 1        | loaded 2
1 read 1 9           | done c
1 read 1 0           | done b
1 load home 1        | loaded 1
1 read 1 0           | done a
1 write 1 0 d        | done uploaded
audit                | findings 0
power                | up
1 read 1 0           | done d
`)
}

// What is not noted does not come over; the disk that was is of no account behind promote.
func TestN3WhatIsNotNoted(t *testing.T) {
	plays(t, furnished+`
note                 | noted
1 write 1 0 a        | done uploaded
ship 1               | replica 1 left 0
1 write 1 1 b        | done uploaded
power                | up
1 read 1 1           | done b
promote              | promoted 1
1 read 1 0           | unmapped
1 write 1 0 c        | done uploaded
note                 | noted
1 write 1 0 e        | done uploaded
ship 1               | replica 1 left 0
promote              | promoted 1
1 read 1 0           | done c
audit                | findings 0
`)
}

// The largest disk, and one of which some sectors are behind the last data sector.
func TestN3OtherDisks(t *testing.T) {
	for _, sectors := range []int{128, 129, 300, 1023, 1024} {
		lines := []string{fmt.Sprintf("disk %d", sectors), "admin add 1 60", "1 vol 1"}
		for at := range 30 {
			lines = append(lines, fmt.Sprintf("1 write 1 %d w%d", at*2, at))
		}
		lines = append(lines, "note", "1 trim 1 0", "note", "ship 11", "1 vol 2", "promote", "audit", "totals", "1 read 1 0", "1 read 1 58", "1 vol 2")
		tells(t, lines, modelled(lines))
	}
}

func TestP11AnAuditAndTotalsBehindEachLineOfReplicas(t *testing.T) {
	tallied(t, furnished+`
1 write 1 0 a
note
ship 3
1 write 1 1 b
note
1 trim 1 0
ship 4
note
ship 21
1 write 1 2 c
note
promote
1 read 1 2
1 write 1 3 a
note
ship 0
ship 1
promote
`)
}

// A replica's number never falls, as long as there is one.
func TestP11ANumberNeverFalls(t *testing.T) {
	s := furnished
	for n := range 12 {
		s += fmt.Sprintf("1 write 1 %d w%d\nnote\nship %s\n", n, n, []string{"0", "31", "13", "4", "0341", "21340", "11111", "0"}[n%8])
	}
	var lines []string
	for _, l := range strings.Split(strings.TrimSpace(s), "\n") {
		line, _, _ := strings.Cut(l, "|")
		lines = append(lines, strings.TrimSpace(line))
	}
	told := modelled(lines)
	tells(t, lines, told)
	last := 0
	for _, l := range told {
		var n, left int
		if k, _ := fmt.Sscanf(l, "replica %d left %d", &n, &left); k == 2 {
			if n < last {
				t.Errorf("%d behind %d", n, last)
			}
			last = n
		}
	}
	if last < 3 {
		t.Errorf("the last one is %d", last)
	}
}
