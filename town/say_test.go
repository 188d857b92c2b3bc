package town_test

import (
	"fmt"
	"testing"
)

func TestN2SayWithoutALink(t *testing.T) {
	plays(t, `
disk 128             | sectors 128 data 85
1 say hi 1           | none
8 say hi 4           | none
1 link               | linked
8 say hi 1           | none
1 say hi 1           | hi
2 link               | linked
3 say hi x           | none
`)
}

func TestN2EachSign(t *testing.T) {
	for signs, told := range map[string]string{
		"0": "-", "1": "hi", "2": "hi", "x": "-", "4": "-", "11": "hi", "22": "hi", "xx": "-", "44": "-", "01": "hi", "x1": "hi", "1x": "hi", "41": "hi", "14": "hi",
		"00000000": "-", "xxxxxxxx": "-", "xxxxxxx1": "hi", "00000002": "hi", "44444444": "-", "21021x4": "hi",
	} {
		plays(t, "disk 128 | sectors 128 data 85\n1 link | linked\n1 say hi "+signs+" | "+told+"\n")
	}
}

// What is kept comes at the beginning of the next line, once at most.
func TestN2FramesThatAreKept(t *testing.T) {
	plays(t, `
disk 128             | sectors 128 data 85
1 link               | linked
1 say a 4            | -
1 say b 1            | a,b
1 say c 4            | -
1 say d 0            | c
1 say e 1            | e
1 say f 444          | -
1 say g 4            | f
1 say h x4           | g
1 say i 14           | h,i
1 say j 0            | -
1 say k 24           | k
1 say l 44           | -
1 say m 44           | l
1 say n x            | m
1 say o 1            | o
`)
}

// Messages are told as they were said, the same word as often as it is said.
func TestN3MessagesAreTakenOnceAndUnchanged(t *testing.T) {
	s := "disk 128 | sectors 128 data 85\n7 link | linked\n"
	for n := range 50 {
		word := []string{"a", "0", of("z", 32), "power", fmt.Sprint(n)}[n%5]
		s += fmt.Sprintf("7 say %s %s | %s\n", word, []string{"1", "2", "x1", "11111111"}[n%4], word)
	}
	plays(t, s)
}

// Of a link that is made anew nothing of the old one comes.
func TestN2LinkForgetsWhatWasKept(t *testing.T) {
	plays(t, `
disk 128             | sectors 128 data 85
1 link               | linked
2 link               | linked
1 say a 44           | -
2 say b 4            | -
1 link               | linked
1 say c 1            | c
2 say d 1            | b,d
1 say e 4            | -
1 link               | linked
1 link               | linked
1 say f 0            | -
1 say g 4            | -
2 link               | linked
1 say h 0            | g
2 say i 2            | i
`)
}

// Two tenants in turns: what one has kept does not come in the other's line.
func TestN2TenantsInTurns(t *testing.T) {
	plays(t, `
disk 128             | sectors 128 data 85
admin add 1 9        | done
1 link               | linked
2 link               | linked
1 say a 4            | -
2 say b 1            | b
2 say c 4            | -
1 say d 4            | a
2 say e 0            | c
8 say f 1            | none
8 link               | linked
8 say f 1            | f
1 say g x            | d
2 say h 1            | h
power                | up
1 say i 4            | -
power                | up
1 say j 1            | i,j
note                 | noted
ship 1               | replica 1 left 0
1 say k 4            | -
promote              | promoted 1
1 say l 1            | k,l
audit                | findings 0
`)
}

// More messages than a window has numbers.
func TestP12ALongTalk(t *testing.T) {
	lines := []string{"disk 128", "1 link", "2 link"}
	for n := range 157 {
		lines = append(lines, fmt.Sprintf("%d say w%d %s", 1+n%7/5, n, []string{"1", "4", "0", "x4", "2", "41", "14", "44", "0"}[n%9]))
	}
	tells(t, lines, modelled(lines))
}

func TestP12AnAuditAndTotalsBehindEachLineOfLinks(t *testing.T) {
	tallied(t, furnished+`
1 say a 1
1 link
1 say a 1
1 say b 4x
2 link
2 say c 2
power
1 say d 0
1 link
1 say e 1
`)
}
