package town_test

import (
	"fmt"
	"math/rand"
	"strings"
	"testing"
)

// tallied plays lines, with an audit and totals behind each.
func tallied(t *testing.T, both string) {
	t.Helper()
	var lines []string
	for _, l := range strings.Split(strings.TrimSpace(both), "\n") {
		line, _, _ := strings.Cut(l, "|")
		if line = strings.TrimSpace(line); line != "" {
			lines = append(lines, line, "audit", "totals")
		}
	}
	tells(t, lines, modelled(lines))
}

func TestN2SaveTellsHowManyItems(t *testing.T) {
	full := ""
	for at := range 60 {
		full += fmt.Sprintf("1 write 1 %d w%d | done uploaded\n", at, at%50)
		if at >= 50 {
			full = strings.Replace(full, fmt.Sprintf("1 write 1 %d w%d | done uploaded", at, at%50), fmt.Sprintf("1 write 1 %d w%d | done proved", at, at%50), 1)
		}
	}
	plays(t, `
disk 300             | sectors 300 data 233
1 save home 1        | notenant
admin add 1 100      | done
admin add 2 10       | done
1 save home 1        | novolume
1 load home 1        | none
1 vol 1              | done
1 save home 1        | saved 0
1 write 1 59 w59     | done uploaded
1 load home 1        | loaded 0
1 read 1 59          | unmapped
1 write 1 30 w30     | done uploaded
1 save home 1        | saved 1
1 trim 1 30          | done
`+full+`
1 save full 1        | saved 60
2 save full 1        | novolume
2 vol 1              | done
2 save none 1        | saved 0
3 save full 1        | notenant
1 save full 99       | novolume
1 stat               | done quota 100 charge 81
1 load none 1        | loaded 0
1 stat               | done quota 100 charge 1
1 load full 1        | loaded 60
1 stat               | done quota 100 charge 81
1 read 1 0           | done w0
1 read 1 59          | done w9
1 load home 1        | loaded 1
1 stat               | done quota 100 charge 3
1 read 1 30          | done w30
audit                | findings 0
`)
}

// A volume that may not be read leaves a NAME what it was; one that is read makes it that alone.
func TestN2SaveOverWhatWasThere(t *testing.T) {
	plays(t, furnished+`
1 write 1 0 a        | done uploaded
1 save home 1        | saved 1
1 write 1 1 b        | done uploaded
1 more home 1        | changed 1 0
1 save home 2        | novolume
2 save home 1        | notenant
1 trim 1 0           | done
1 load home 1        | loaded 2
1 trim 1 0           | done
1 save home 1        | saved 1
1 load home 1        | loaded 1
1 read 1 0           | unmapped
1 read 1 1           | done b
split home 2 2       | shards 4
lose home 0          | ok
lose home 1          | ok
lose home 2          | ok
1 load home 1        | few
1 save home 9        | novolume
1 load home 1        | few
1 write 1 2 c        | done uploaded
1 save home 1        | saved 2
lose home 0          | none
1 more home 1        | changed 0 0
1 trim 1 1           | done
1 load home 1        | loaded 2
split home 1 0       | shards 1
1 load home 1        | loaded 2
lose home 0          | ok
1 load home 1        | few
`)
}

func TestN2MoreTellsWhatChanged(t *testing.T) {
	plays(t, furnished+`
admin add 2 20       | done
2 vol 1              | done
1 more home 1        | none
1 more home 2        | none
3 more home 1        | none
1 save home 1        | saved 0
1 more home 1        | changed 0 0
1 more home 2        | novolume
3 more home 1        | notenant
1 write 1 0 a        | done uploaded
1 write 1 1 b        | done uploaded
1 write 1 2 c        | done uploaded
1 more home 1        | changed 3 0
1 trim 1 0           | done
1 write 1 1 d        | done uploaded
1 write 1 2 c        | done proved
1 write 1 59 a       | done uploaded
1 more home 1        | changed 2 1
1 write 1 1 d        | done proved
2 write 1 59 a       | done proved
2 more home 1        | changed 1 2
1 load home 1        | loaded 1
1 read 1 59          | lost
2 load home 1        | loaded 1
2 read 1 59          | done a
1 more home 1        | full
2 more home 1        | full
1 more home 9        | full
8 more home 1        | full
split home 1 1       | shards 2
1 more home 1        | split
1 more home 9        | split
8 more home 9        | split
1 save home 1        | saved 1
1 more home 1        | changed 0 0
split home 1 0       | shards 1
split home 1 0       | split
split home 16 8      | split
1 more home 1        | split
`)
}

// The same word in the same block of another volume is another item, for its key is wrapped for its place.
func TestN2MoreOfAnotherVolume(t *testing.T) {
	plays(t, furnished+`
1 vol 2              | done
1 write 1 3 a        | done uploaded
1 write 2 3 a        | done proved
1 write 2 4 b        | done uploaded
1 save home 1        | saved 1
1 more home 2        | changed 2 0
1 more home 2        | changed 0 0
1 more home 1        | changed 1 1
1 load home 2        | loaded 1
1 read 2 3           | lost
1 load home 1        | loaded 1
1 read 1 3           | done a
`)
}

// Five archives lead to the last one, in shards and not.
func TestN3AChainLeadsToItsLastOne(t *testing.T) {
	for _, split := range []string{"", "split home 3 2 | shards 5\nlose home 1 | ok\nlose home 4 | ok\n"} {
		plays(t, furnished+`
1 write 1 0 a        | done uploaded
1 write 1 1 a        | done proved
1 write 1 2 a        | done proved
1 save home 1        | saved 3
1 write 1 0 b        | done uploaded
1 more home 1        | changed 1 0
1 trim 1 1           | done
1 more home 1        | changed 0 1
1 write 1 1 c        | done uploaded
1 write 1 40 d       | done uploaded
1 more home 1        | changed 2 0
1 trim 1 2           | done
1 trim 1 40          | done
1 write 1 0 a        | done uploaded
1 more home 1        | changed 1 2
`+split+`
1 write 1 0 x        | done uploaded
1 write 1 2 y        | done uploaded
1 write 1 40 z       | done uploaded
1 load home 1        | loaded 2
1 read 1 0           | done a
1 read 1 1           | done c
1 read 1 2           | unmapped
1 read 1 40          | unmapped
1 stat               | done quota 40 charge 4
audit                | findings 0
`)
	}
}

// Each K and M: as many shards may be lost as there are of parity, whichever they are, and no more.
func TestN3EachKindOfShards(t *testing.T) {
	r := rand.New(rand.NewSource(1))
	for k := 1; k <= 16; k++ {
		for m := range 9 {
			s := furnished + `
1 write 1 5 a        | done uploaded
1 write 1 6 b        | done uploaded
1 save home 1        | saved 2
1 write 1 7 c        | done uploaded
1 more home 1        | changed 1 0
`
			s += fmt.Sprintf("split home %d %d | shards %d\nsplit home %d %d | split\n", k, m, k+m, m+1, k/2)
			if k+m < 24 {
				s += fmt.Sprintf("lose home %d | none\n", k+m)
			}
			s += "1 trim 1 5 | done\n1 write 1 9 d | done uploaded\n1 load home 1 | loaded 3\n1 read 1 5 | done a\n1 read 1 9 | unmapped\n"
			order := r.Perm(k + m)
			for i := range m {
				s += fmt.Sprintf("lose home %d | ok\n", order[i])
			}
			if m > 0 {
				// It is lost already: so no further one is.
				s += fmt.Sprintf("lose home %d | ok\n", order[m-1])
			}
			s += "1 trim 1 6 | done\n1 write 1 9 d | done uploaded\n1 load home 1 | loaded 3\n1 read 1 6 | done b\n1 read 1 7 | done c\n1 read 1 9 | unmapped\n"
			s += fmt.Sprintf("lose home %d | ok\n1 trim 1 6 | done\n1 load home 1 | few\n1 read 1 6 | unmapped\n", order[m])
			for _, i := range order {
				s += fmt.Sprintf("lose home %d | ok\n", i)
			}
			s += "1 load home 1 | few\n"
			plays(t, s)
		}
	}
}

// Each choice of lost shards of some kinds.
func TestN3EachChoiceOfLostShards(t *testing.T) {
	for _, x := range [][2]int{{1, 0}, {1, 1}, {2, 1}, {2, 2}, {3, 2}, {4, 2}, {1, 5}, {5, 1}} {
		all := x[0] + x[1]
		for lost := range 1 << all {
			lines := []string{"disk 128", "admin add 1 40", "1 vol 1", "1 write 1 0 a", "1 write 1 9 b", "1 save home 1", fmt.Sprintf("split home %d %d", x[0], x[1]), "1 trim 1 0"}
			for i := range all {
				if lost>>i&1 == 1 {
					lines = append(lines, fmt.Sprintf("lose home %d", i))
				}
			}
			lines = append(lines, "1 load home 1", "1 read 1 0")
			tells(t, lines, modelled(lines))
		}
	}
}

func TestN2LoseTellsWhichThereAre(t *testing.T) {
	s := furnished + `
lose home 0          | none
1 save home 1        | saved 0
lose home 0          | none
lose home 23         | none
split home 16 8      | shards 24
`
	for i := range 24 {
		s += fmt.Sprintf("lose home %d | ok\n", i)
	}
	plays(t, s+`
lose home 23         | ok
lose away 0          | none
1 save away 1        | saved 0
split away 1 0       | shards 1
lose away 1          | none
1 load away 1        | loaded 0
lose away 0          | ok
lose away 0          | ok
1 load away 1        | few
`)
}

// Into another volume, or by another tenant: the blocks come, but their keys are wrapped for another place.
func TestN2LoadElsewhere(t *testing.T) {
	plays(t, furnished+`
1 vol 2              | done
admin add 2 5        | done
2 vol 1              | done
1 write 1 0 a        | done uploaded
1 write 1 1 b        | done uploaded
1 save home 1        | saved 2
1 write 2 1 x        | done uploaded
1 write 2 9 y        | done uploaded
1 load home 2        | loaded 2
1 read 2 0           | lost
1 read 2 1           | lost
1 read 2 9           | unmapped
2 load home 1        | loaded 2
2 read 1 0           | lost
2 stat               | done quota 5 charge 4
1 save away 2        | saved 2
1 write 1 0 z        | done uploaded
1 load away 1        | loaded 2
1 read 1 0           | done a
1 load home 1        | loaded 2
1 read 1 0           | done a
1 read 1 1           | done b
1 trim 2 0           | done
1 trim 2 1           | done
2 trim 1 0           | done
2 trim 1 1           | done
totals               | chunks 2 pages 4 mapped 2 charged 6 promised 45 capacity 83
2 load home 2        | novolume
3 load home 1        | notenant
1 load home 99       | novolume
audit                | findings 0
`)
}

// The quota may not let it: what is ahead of that block is brought back by then, and what is behind stays.
func TestN2LoadBeyondAQuota(t *testing.T) {
	plays(t, `
disk 128             | sectors 128 data 85
admin add 1 6        | done
1 vol 1              | done
1 write 1 0 a        | done uploaded
1 write 1 1 b        | done uploaded
1 write 1 2 c        | done uploaded
1 save home 1        | saved 3
1 trim 1 0           | done
1 trim 1 1           | done
1 trim 1 2           | done
1 write 1 59 z       | done uploaded
1 load home 1        | overquota
1 stat               | done quota 6 charge 6
1 read 1 0           | done a
1 read 1 1           | done b
1 read 1 2           | unmapped
1 read 1 59          | done z
1 trim 1 59          | done
1 load home 1        | loaded 3
1 stat               | done quota 6 charge 5
1 vol 2              | done
1 load home 2        | overquota
1 read 2 0           | unmapped
1 load home 1        | loaded 3
audit                | findings 0
`)
}

// Of several words the one that the row names first, and errors of names ahead of statuses.
func TestN2WhichWordIsToldWhereSeveralCould(t *testing.T) {
	plays(t, `
disk 128             | sectors 128 data 85
8 more home 9        | none
8 load home 9        | none
8 save home 9        | notenant
admin add 1 9        | done
1 more home 9        | none
1 load home 9        | none
1 save home 9        | novolume
1 vol 1              | done
1 save home 1        | saved 0
1 more home 1        | changed 0 0
1 more home 1        | changed 0 0
1 more home 1        | changed 0 0
1 more home 9        | novolume
8 more home 9        | notenant
1 more home 1        | changed 0 0
8 more home 9        | full
8 load home 9        | notenant
1 load home 9        | novolume
split home 1 0       | shards 1
8 more home 9        | split
8 load home 9        | notenant
lose home 1          | none
lose home 0          | ok
8 load home 9        | few
1 load home 1        | few
split home 1 0       | split
`)
}

// Names have nothing to do with one another, nor with whose tenant's they are; power does nothing to them.
func TestN2NamesAndPower(t *testing.T) {
	plays(t, furnished+`
1 write 1 0 a        | done uploaded
1 save a 1           | saved 1
1 save aa 1          | saved 1
1 save aaaaaaaa 1    | saved 1
power                | up
1 trim 1 0           | done
1 save a 1           | saved 0
split aa 2 0         | shards 2
lose aa 0            | ok
power                | up
1 load aa 1          | few
1 load aaaaaaaa 1    | loaded 1
1 read 1 0           | done a
power                | up
1 load a 1           | loaded 0
1 read 1 0           | unmapped
1 more aaaaaaaa 1    | changed 0 1
1 load b 1           | none
`)
}

// A volume that went is not there, though a NAME has what it was; made anew it has the same place.
func TestN3AVolumeThatWentAndCame(t *testing.T) {
	plays(t, furnished+`
1 write 1 0 a        | done uploaded
1 save home 1        | saved 1
1 unvol 1            | notempty
1 trim 1 0           | done
1 unvol 1            | done
1 load home 1        | novolume
1 vol 1              | done
1 load home 1        | loaded 1
1 read 1 0           | done a
`)
}

func TestP10AnAuditAndTotalsBehindEachLineOfArchives(t *testing.T) {
	tallied(t, furnished+`
1 write 1 0 a
1 write 1 7 b
1 save home 1
1 trim 1 0
1 more home 1
1 write 1 59 c
1 more home 1
split home 4 2
lose home 1
1 write 1 0 d
1 load home 1
1 vol 2
1 load home 2
lose home 2
lose home 3
1 load home 1
1 save away 2
1 load away 1
1 trim 1 7
`)
}
