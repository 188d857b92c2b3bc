package server_test

import (
	"math"
	"testing"

	"strongbox/api"
	"strongbox/server"
)

func layoutIs(t *testing.T, sectors int, want api.Layout, errno api.Errno) {
	t.Helper()
	if l, e := server.LayoutOf(sectors); l != want || e != errno {
		t.Errorf("LayoutOf(%d) = %+v, %d, want %+v, %d", sectors, l, e, want, errno)
	}
}

func TestV1TheChaptersExamples(t *testing.T) {
	layoutIs(t, 128, api.Layout{Sectors: 128, Tenants: 19, Bitmap: 27, Index: 28, Data: 43, Count: 85, Capacity: 83}, api.OK)
	layoutIs(t, 1024, api.Layout{Sectors: 1024, Tenants: 19, Bitmap: 27, Index: 31, Data: 173, Count: 851, Capacity: 849}, api.OK)
	layoutIs(t, 127, api.Layout{}, api.ErrArg)
}

// Where one more sector is of no use: for another page of the index, or of the map with it.
func TestV1LayoutsAtTheirEdges(t *testing.T) {
	for _, l := range []api.Layout{
		{Sectors: 129, Tenants: 19, Bitmap: 27, Index: 28, Data: 43, Count: 86, Capacity: 84},
		{Sectors: 133, Tenants: 19, Bitmap: 27, Index: 28, Data: 43, Count: 90, Capacity: 88},
		{Sectors: 134, Tenants: 19, Bitmap: 27, Index: 28, Data: 43, Count: 90, Capacity: 88},
		{Sectors: 135, Tenants: 19, Bitmap: 27, Index: 28, Data: 44, Count: 91, Capacity: 89},
		{Sectors: 327, Tenants: 19, Bitmap: 27, Index: 28, Data: 71, Count: 256, Capacity: 254},
		{Sectors: 328, Tenants: 19, Bitmap: 27, Index: 28, Data: 71, Count: 256, Capacity: 254},
		{Sectors: 329, Tenants: 19, Bitmap: 27, Index: 29, Data: 72, Count: 257, Capacity: 255},
	} {
		layoutIs(t, l.Sectors, l, api.OK)
	}
}

func TestV1NumbersThatMayNotBe(t *testing.T) {
	for _, n := range []int{127, 1025, 0, 1, -1, -128, math.MinInt, math.MinInt + 1, math.MaxInt, math.MaxInt - 1, math.MinInt + 128, 1 << 32, 1<<32 + 128} {
		layoutIs(t, n, api.Layout{}, api.ErrArg)
	}
}

func TestV1EachSizeByTheDocumentsWords(t *testing.T) {
	for n := 128; n <= 1024; n++ {
		g := newGround(n)
		layoutIs(t, n, api.Layout{Sectors: n, Tenants: 19, Bitmap: g.bitmap, Index: g.index, Data: g.data, Count: g.count, Capacity: g.count - 2}, api.OK)
	}
}
