package audit

import (
	"slices"
	"sync"
	"testing"

	"strongbox/api"
)

// However many ask at the same time, each gets the whole table, and what it got is never another one.
func TestA3FormsAreFilledOnce(t *testing.T) {
	want := map[int]form{
		api.PageSuper: {28, ""}, api.PageJournal: {1, noughts(1)}, api.PageBitmap: {32, ""}, api.PageIndex: {222, noughts(37)},
		api.PageTenant: {50, noughts(50)}, api.PageRoot: {40, ""}, api.PageLeaf: {241, noughts(80)},
	}
	for range 50 {
		var table forms
		var all sync.WaitGroup
		for range 16 {
			all.Add(1)
			go func() {
				defer all.Done()
				for kind, w := range want {
					if got := table.of(kind); got != w {
						t.Errorf("kind %d: %+v", kind, got)
					}
				}
			}()
		}
		all.Wait()
		// Who asks behind that finds what stands there, and does not fill it anew.
		table.list[api.PageRoot].size = 99
		if got := table.of(api.PageRoot).size; got != 99 {
			t.Errorf("it was filled again: %d", got)
		}
	}
}

// Whoever finds what, and in whichever order: all is there, in order, each once.
func TestA3NotesOfManyAreInOrder(t *testing.T) {
	var n notes
	var things []func()
	var want []api.Finding
	for kind := 1; kind <= 10; kind++ {
		for where := range 30 {
			want = append(want, api.Finding{Kind: kind, Where: where})
		}
	}
	for g := range 12 {
		things = append(things, func() {
			for i := range want {
				x := want[(i*7+g*11)%len(want)]
				n.add(x.Kind, x.Where)
			}
		})
	}
	together(things...)
	if got := n.told(); !slices.Equal(got, want) {
		t.Errorf("%d are told, want %d", len(got), len(want))
	}
	together()
	if got := new(notes).told(); len(got) != 0 {
		t.Errorf("of nothing: %v", got)
	}
}
