package seal

import (
	"testing"

	"strongbox/api"
)

// What lies behind a part belongs to nobody: were there room behind it, a growing part would write there.
func TestS1PartsHaveNoRoomBehindThem(t *testing.T) {
	key := string(make([]byte, api.KeySize))
	for _, c := range [][2]int{{0, 0}, {0, 1}, {5, 20}, {31, 2}, {streamSize - 1, 1}, {streamSize, 0}} {
		if got := part(key, c[0], c[1]); len(got) != c[1] || cap(got) != c[1] {
			t.Errorf("part(key, %d, %d) has %d bytes and room for %d", c[0], c[1], len(got), cap(got))
		}
	}
}

func TestS1SumsEndWithTheStream(t *testing.T) {
	key := string(make([]byte, api.KeySize))
	for first, want := range map[int]int{0: 2048, 2047: 1, 2048: 0} {
		given := 0
		for range sums(key, first) {
			given++
		}
		if given != want {
			t.Errorf("from Sum %d on there are %d Sums, want %d", first, given, want)
		}
	}
}
