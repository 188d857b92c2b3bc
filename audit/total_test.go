package audit_test

import (
	"testing"

	"strongbox/api"
)

// Each of the totals is of right pages, and of what is owned rightly, whatever is found beside.
func TestA2TotalsOfWhatIsSpoilt(t *testing.T) {
	a := digestOf(text(10))
	for name, x := range map[string]struct {
		do   func(l []string)
		want api.Totals
	}{
		"nothing":                {func(l []string) {}, furniture()},
		"the head":               {func(l []string) { l[1] = noughts(256) }, furniture()},
		"the bitmap":             {func(l []string) { l[27] = noughts(256) }, furniture()},
		"a page of the index":    {func(l []string) { l[28] = noughts(256) }, api.Totals{Chunks: 1, Pages: 7, Mapped: 5, Charged: 12, Promised: 83, Capacity: 83}},
		"another of the index":   {func(l []string) { l[29] = noughts(256) }, api.Totals{Chunks: 2, Pages: 7, Mapped: 5, Charged: 12, Promised: 83, Capacity: 83}},
		"a digest twice":         {func(l []string) { put(l, indexAt, 80, slot(a, 1)) }, furniture()},
		"one more in the index":  {func(l []string) { put(l, indexAt, 80, slot(digestOf("x"), 1)) }, api.Totals{Chunks: 4, Pages: 7, Mapped: 5, Charged: 12, Promised: 83, Capacity: 83}},
		"a tenant's page":        {func(l []string) { l[19] = noughts(256) }, api.Totals{Chunks: 3, Pages: 4, Mapped: 2, Charged: 6, Promised: 33, Capacity: 83}},
		"another tenant's page":  {func(l []string) { l[20] = noughts(256) }, api.Totals{Chunks: 3, Pages: 3, Mapped: 3, Charged: 6, Promised: 50, Capacity: 83}},
		"quotas":                 {func(l []string) { set(l, 20, 1, number(100, 4)) }, api.Totals{Chunks: 3, Pages: 7, Mapped: 5, Charged: 12, Promised: 150, Capacity: 83}},
		"charges":                {func(l []string) { set(l, 20, 5, number(33, 4)) }, api.Totals{Chunks: 3, Pages: 7, Mapped: 5, Charged: 39, Promised: 83, Capacity: 83}},
		"a root":                 {func(l []string) { l[at(6)] = noughts(256) }, api.Totals{Chunks: 3, Pages: 4, Mapped: 3, Charged: 12, Promised: 83, Capacity: 83}},
		"a root without leaves":  {func(l []string) { mark(l, 5, false) }, api.Totals{Chunks: 3, Pages: 6, Mapped: 5, Charged: 12, Promised: 83, Capacity: 83}},
		"a leaf":                 {func(l []string) { l[at(2)] = noughts(256) }, api.Totals{Chunks: 3, Pages: 6, Mapped: 3, Charged: 12, Promised: 83, Capacity: 83}},
		"a leaf that is told":    {func(l []string) { l[at(5)] = root(2, 7, map[int]int{1: 20}) }, furniture()},
		"a digest nowhere":       {func(l []string) { set(l, at(4), 1, digestOf("x")) }, furniture()},
		"a count":                {func(l []string) { put(l, indexAt, 1, slot(a, 65535)) }, furniture()},
		"a lost place":           {func(l []string) { mark(l, 70, true) }, furniture()},
		"a chunk":                {func(l []string) { l[at(1)] = noughts(256) }, furniture()},
		"a chunk's place":        {func(l []string) { mark(l, 1, false) }, furniture()},
		"one block less":         {func(l []string) { l[at(2)] = leaf(1, 7, 0, a) }, api.Totals{Chunks: 3, Pages: 7, Mapped: 4, Charged: 12, Promised: 83, Capacity: 83}},
		"one block more":         {func(l []string) { l[at(2)] = leaf(1, 7, 0, a, a, a) }, api.Totals{Chunks: 3, Pages: 7, Mapped: 6, Charged: 12, Promised: 83, Capacity: 83}},
		"the super page":         {func(l []string) { l[0] = noughts(256) }, api.Totals{}},
		"a chunk instead a root": {func(l []string) { put(l, indexAt, 6, slot(digestOf(l[at(6)]), 1)) }, api.Totals{Chunks: 4, Pages: 4, Mapped: 3, Charged: 12, Promised: 83, Capacity: 83}},
	} {
		image := spoilt(t, x.do)
		if _, got, e := agrees(t, name, image); got != x.want || e != api.OK {
			t.Errorf("%s: totals %+v, %d, want %+v", name, got, e, x.want)
		}
	}
}

func TestA2TheCapacityIsTheLayouts(t *testing.T) {
	for sectors, want := range map[int]int{128: 83, 129: 84, 329: 255, 1024: 849} {
		if x := finds(t, "behind Format", formatted(t, sectors).d.Image()); x != (api.Totals{Capacity: want}) {
			t.Errorf("of %d sectors: %+v", sectors, x)
		}
	}
}
