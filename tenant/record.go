package tenant

import (
	"strongbox/api"
	"strongbox/pack"
)

// The bytes of a body's numbers, and how it begins if the tenant is there.
const (
	markSize   = 1
	amountSize = 4 // of a quota and of a charge
	countSize  = 1
	numberSize = 1
	rootSize   = 4
	mark       = 1
)

// The most that numbers may be.
const (
	maxQuota = 65535
	maxRoot  = api.MaxSectors - 1
)

// record is what a page tells of its tenant: of one who is not there, nothing but noughts.
type record struct {
	isThere       bool
	quota, charge int
	count         int                        // of the volumes
	volumes       [api.MaxVolumes]api.Volume // so many, by rising numbers; noughts behind them
}

// isTenant tells whether there may be a tenant of that number.
func isTenant(n int) bool { return 1 <= n && n <= api.MaxTenants }

// isQuota tells whether so much may be promised.
func isQuota(n int) bool { return 0 <= n && n <= maxQuota }

// isVolume tells whether a volume may have that number and that root.
func isVolume(v api.Volume) bool {
	return 0 <= v.Number && v.Number <= api.MaxVolume && 0 <= v.Root && v.Root <= maxRoot
}

// parseRecord is what the body of a page tells; false, if it is none.
func parseRecord(body string) (record, bool) {
	in := pack.NewReader(body)
	marked := in.Num(markSize)
	r := record{isThere: marked == mark}
	r.quota = in.Num(amountSize)
	r.charge = in.Num(amountSize)
	r.count = in.Num(countSize)
	for k := range r.volumes {
		r.volumes[k].Number = in.Num(numberSize)
		r.volumes[k].Root = in.Num(rootSize)
	}
	errno, _ := in.Done()
	if errno != api.OK || marked > mark || !r.isRight() {
		return record{}, false
	}
	return r, true
}

// isRight tells whether a record is that of a tenant who may be there, or of one who is not.
func (r record) isRight() bool {
	if !r.isThere {
		return r == record{}
	}
	return isQuota(r.quota) && r.charge <= r.quota && r.hasRightVolumes()
}

// hasRightVolumes tells whether the volumes may be, and rise, and nothing stands behind them.
func (r record) hasRightVolumes() bool {
	if r.count > len(r.volumes) {
		return false
	}
	for k, v := range r.volumes {
		if k >= r.count {
			if v != (api.Volume{}) {
				return false
			}
			continue
		}
		if !isVolume(v) || k > 0 && v.Number <= r.volumes[k-1].Number {
			return false
		}
	}
	return true
}

// body is that of its page.
func (r record) body() string {
	marked := 0
	if r.isThere {
		marked = mark
	}
	w := pack.NewWriter()
	w.Num(markSize, marked)
	w.Num(amountSize, r.quota, r.charge)
	w.Num(countSize, r.count)
	for _, v := range r.volumes {
		w.Num(numberSize, v.Number)
		w.Num(rootSize, v.Root)
	}
	// Nothing is wrong with it: the numbers are small.
	body, _ := w.Done()
	return body
}

// list is its volumes, in memory of their own.
func (r record) list() []api.Volume {
	var l []api.Volume
	return append(l, r.volumes[:r.count]...)
}

// seat is where a volume stands among its volumes; false, if it has none of that number.
func (r record) seat(number int) (int, bool) {
	for k := range r.count {
		if r.volumes[k].Number == number {
			return k, true
		}
	}
	return 0, false
}

// with is the record with one volume more, for which there is room.
func (r record) with(v api.Volume) record {
	k := r.count
	for k > 0 && r.volumes[k-1].Number > v.Number {
		r.volumes[k] = r.volumes[k-1]
		k--
	}
	r.volumes[k] = v
	r.count++
	return r
}

// without is the record without the volume of that number, which it has.
func (r record) without(number int) record {
	k, _ := r.seat(number)
	copy(r.volumes[k:], r.volumes[k+1:])
	r.count--
	r.volumes[r.count] = api.Volume{}
	return r
}

// charged is the record of which more is charged.
func (r record) charged(a ask) record {
	r.charge += a.more
	return r
}
