package town_test

import (
	"strings"
	"testing"

	"strongbox/api"
	"strongbox/town"
)

func of(sign string, n int) string { return strings.Repeat(sign, n) }

// scriptOf are lines as a script, or as a transcript.
func scriptOf(lines []string) string {
	if len(lines) == 0 {
		return ""
	}
	return strings.Join(lines, "\n") + "\n"
}

// modelled is what the model tells of lines.
func modelled(lines []string) []string {
	m := begin(value(strings.Fields(lines[0])[1]))
	var told []string
	for _, line := range lines {
		told = append(told, m.plays(line))
	}
	return told
}

// tells holds what is told of lines.
func tells(t *testing.T, lines, want []string) {
	t.Helper()
	s, e, at := town.Run(scriptOf(lines))
	if e != api.OK || at != 0 {
		t.Fatalf("%d, %d of\n%s", e, at, scriptOf(lines))
	}
	told := strings.Split(s, "\n")
	if len(told) != len(want)+1 || told[len(want)] != "" {
		t.Fatalf("%d lines, want %d, of\n%s", len(told)-1, len(want), scriptOf(lines))
	}
	for i, line := range lines {
		if told[i] != want[i] {
			t.Fatalf("line %d: %s: %q, want %q, in\n%s", i+1, line, told[i], want[i], scriptOf(lines[:i+1]))
		}
	}
}

// plays plays a script whose lines are told beside what must come of them, and holds the model to that, too.
func plays(t *testing.T, both string) {
	t.Helper()
	var lines, want []string
	for _, l := range strings.Split(strings.TrimSpace(both), "\n") {
		if strings.TrimSpace(l) == "" {
			continue
		}
		line, told, _ := strings.Cut(l, "|")
		lines, want = append(lines, strings.TrimSpace(line)), append(want, strings.TrimSpace(told))
	}
	tells(t, lines, want)
	for i, told := range modelled(lines) {
		if told != want[i] {
			t.Fatalf("the model: line %d: %s: %q, want %q", i+1, lines[i], told, want[i])
		}
	}
}

// furnished is the beginning of many scripts: a tenant with a volume.
const furnished = `
disk 128             | sectors 128 data 85
admin add 1 40       | done
1 vol 1              | done
`

func TestN2Example(t *testing.T) {
	plays(t, `
disk 128             | sectors 128 data 85
admin add 1 30       | done
1 vol 1              | done
1 write 1 0 one      | done uploaded
1 write 1 7 two      | done uploaded
1 save home 1        | saved 2
split home 2 1       | shards 3
lose home 0          | ok
1 trim 1 0           | done
1 write 1 7 other    | done uploaded
1 load home 1        | loaded 2
1 read 1 0           | done one
1 read 1 7           | done two
lose home 1          | ok
1 load home 1        | few
note                 | noted
ship 1               | replica 1 left 0
1 trim 1 0           | done
note                 | noted
ship 0               | replica 1 left 1
promote              | promoted 1
1 read 1 0           | done one
1 link               | linked
1 say hi 2           | hi
1 say ho 4           | -
1 say hu x01         | ho,hu
`)
}
