package manifest

import (
	"slices"
	"strings"
	"testing"

	"strongbox/api"
)

// some is a right entry of one letter.
func some(letter string) api.Entry {
	return api.Entry{Digest: strings.Repeat(letter, 32), Wrapped: strings.Repeat(letter, 48)}
}

func TestWaysTheIteratorsEndWithTheirLoops(t *testing.T) {
	var b blocks
	b[0], b[7], b[59] = some("a"), some("b"), some("c")
	tr := tree{}.with(0, 0).with(2, 5).with(19, 1000)
	for n, want := range [][]int{{0, 7, 59}, {0}, {0, 7}, {0, 7, 59}} {
		var l []int
		for block, e := range b.mapped() {
			if l = append(l, block); e != b[block] || len(l) == n {
				break
			}
		}
		if !slices.Equal(l, want) {
			t.Errorf("mapped goes over %v, want %v", l, want)
		}
	}
	for n, want := range [][]int{{0, 2, 19}, {0}, {0, 2}, {0, 2, 19}} {
		var l []int
		for leaf := range tr.there() {
			if l = append(l, leaf); len(l) == n {
				break
			}
		}
		if !slices.Equal(l, want) {
			t.Errorf("there goes over %v, want %v", l, want)
		}
	}
	for range (blocks{}).mapped() {
		t.Error("nothing is mapped")
	}
	for range (tree{}).there() {
		t.Error("no leaf is there")
	}
}

func TestWaysEntriesAreComparedAsValues(t *testing.T) {
	for _, e := range []api.Entry{some("a"), some("\x00"), {Digest: "x"}, {Wrapped: "x"}} {
		if !isMapped(e) {
			t.Errorf("%q is that of a block that is not mapped", e)
		}
	}
	if isMapped(api.Entry{}) {
		t.Error("the entry that holds nothing is that of a block that is mapped")
	}
}

func TestPagesThroughBoth(t *testing.T) {
	for _, f := range []leaf{{}, {some("a")}, {1: some("b")}, {2: some("\x00")}, {some("a"), some("a"), some("b")}} {
		body := f.body()
		if got := parseLeaf(body); got != f || len(body) != leafSize {
			t.Errorf("%q is read as %q", f, got)
		}
	}
	for _, tr := range []tree{newTree(1, 0), newTree(8, 99), newTree(3, 7).with(0, 0).with(19, 1023), newTree(3, 7).with(4, 65534)} {
		page := tr.page()
		if got := parseTree(0, page); got != tr || page.Kind != api.PageRoot || len(page.Body) != rootSize {
			t.Errorf("%v is read as %v", tr, got)
		}
		if got := tr.with(7, 300).without(7); got != tr {
			t.Errorf("%v is %v behind a leaf that has come and gone", tr, got)
		}
	}
}

// What a map says is told as an error of the layer, and what a pool says as it is.
func TestAnswersOfTheMap(t *testing.T) {
	for errno, want := range map[api.Errno]api.Errno{
		api.OK: api.OK, api.ErrDead: api.ErrDead, api.ErrPoolNone: api.ErrPoolNone, api.ErrPoolFull: api.ErrPoolFull,
		api.ErrBitmapFull:  api.ErrManifestFull,
		api.ErrBitmapPlace: api.ErrManifestForm, api.ErrBitmapFree: api.ErrManifestForm, api.ErrBitmapForm: api.ErrManifestForm,
	} {
		if got := answerOf(errno); got != want {
			t.Errorf("%d is told as %d, want %d", errno, got, want)
		}
	}
}
