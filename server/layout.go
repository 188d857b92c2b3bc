package server

import (
	"strings"

	"strongbox/api"
	"strongbox/bitmap"
	"strongbox/disk"
	"strongbox/index"
	"strongbox/journal"
	"strongbox/pack"
	"strongbox/tenant"
)

// Where the super page stands, its number, and the bytes of each number of a layout in it.
const (
	superAt     = 0
	superNumber = 0
	layoutSize  = 4
)

// LayoutOf tells how a disk of so many sectors is laid out.
func LayoutOf(sectors int) (api.Layout, api.Errno) {
	if sectors < api.MinSectors || sectors > api.MaxSectors {
		return api.Layout{}, api.ErrArg
	}
	// From above: the first one that there is room for has the most data sectors.
	l := laidOut(sectors, sectors)
	for l.Data+l.Count > sectors {
		l = laidOut(sectors, l.Count-1)
	}
	return l, api.OK
}

// laidOut is the layout with so many data sectors, whether there is room for them or not.
func laidOut(sectors, count int) api.Layout {
	l := api.Layout{Sectors: sectors, Tenants: api.FirstFree, Count: count, Capacity: count - api.Spare}
	l.Bitmap = l.Tenants + api.MaxTenants
	l.Index = l.Bitmap + pagesFor(count, api.BitsPage)
	l.Data = l.Index + pagesFor(count, api.SlotsPage)
	return l
}

// pagesFor is how many pages have room for so many, of which one has room for each.
func pagesFor(count, each int) int { return (count + each - 1) / each }

// superPage is the one that says a layout, as a sector.
func superPage(l api.Layout) string {
	w := pack.NewWriter()
	w.Num(layoutSize, l.Sectors, l.Tenants, l.Bitmap, l.Index, l.Data, l.Count, l.Capacity)
	// None of the two can be refused: the numbers are small, and the body is shorter than a page's may be.
	body, _ := w.Done()
	sector, _ := pack.MakePage(api.Page{Kind: api.PageSuper, Number: superNumber, Body: body})
	return sector
}

// readLayout is the layout of a disk that has a store.
func readLayout(d *disk.Disk) (api.Layout, api.Errno) {
	sector, errno := d.Read(superAt)
	if errno != api.OK {
		return api.Layout{}, errno
	}
	// A disk has no other sizes than layouts have.
	l, _ := LayoutOf(d.Size())
	if sector != superPage(l) {
		return api.Layout{}, api.ErrServerForm
	}
	return l, api.OK
}

// Format lays an empty store down.
func Format(d *disk.Disk) api.Errno {
	// As in Open.
	if d == nil {
		return api.ErrDead
	}
	l, _ := LayoutOf(d.Size())
	// From the first flush to the last one there is no super page: so what is half laid down is no store.
	if errno := lay(d, superAt, strings.Repeat("\x00", api.SectorSize)); errno != api.OK {
		return errno
	}
	if errno := journal.Format(d); errno != api.OK {
		return errno
	}
	if errno := lay(d, l.Tenants, firstPages(l)...); errno != api.OK {
		return errno
	}
	return lay(d, superAt, superPage(l))
}

// firstPages are those of an empty store from the table's on, in which they stand without a gap.
func firstPages(l api.Layout) []string {
	// None is refused: a layout's count is one that a map and an index may have.
	maps, _ := bitmap.Initial(l.Count)
	slots, _ := index.Initial(l.Count)
	pages := append(tenant.Initial(), maps...)
	return append(pages, slots...)
}

// lay writes sectors, from one on, and lets them last.
func lay(d *disk.Disk, at int, sectors ...string) api.Errno {
	for k, s := range sectors {
		if errno := d.Write(at+k, s); errno != api.OK {
			return errno
		}
	}
	return d.Flush()
}
