package audit

import (
	"strongbox/api"
	"strongbox/pack"
)

// How a tenant's body begins if it is there, and the most that numbers may be.
const (
	tenantMark = 1
	maxQuota   = 65535
	maxRoot    = api.MaxSectors - 1
)

// allQuotas is where it is told that the quotas are together too much: no tenant's page stands there.
const allQuotas = 0

// record is what a tenant's page tells: of one who is not there, and of a page that is not right, nothing.
type record struct {
	isRight       bool
	quota, charge int
	volumes       []api.Volume
}

// roll is what all their pages tell, that of tenant 1 first.
type roll [api.MaxTenants]record

// readTenants is what the tenants' pages tell.
func (v *view) readTenants() roll {
	var all roll
	promised := 0
	for k := range all {
		sector := v.layout.Tenants + k
		body, isPage := v.body(sector, api.PageTenant, k+1)
		if isPage {
			all[k] = v.recordOf(body)
		}
		if !all[k].isRight {
			v.notes.add(api.FindTenant, sector)
		}
		promised += all[k].quota
	}
	if promised > v.layout.Capacity {
		v.notes.add(api.FindTenant, allQuotas)
	}
	return all
}

// recordOf is what a body tells.
func (v *view) recordOf(body string) record {
	none := v.forms.of(api.PageTenant).none
	if body == none {
		return record{isRight: true}
	}
	r := pack.NewReader(body)
	begins := r.Num(markSize)
	x := record{isRight: true, quota: r.Num(amountSize), charge: r.Num(amountSize)}
	count := r.Num(countSize)
	if begins != tenantMark || x.quota > maxQuota || x.charge > x.quota || count > api.MaxVolumes {
		return record{}
	}
	for range count {
		x.volumes = append(x.volumes, api.Volume{Number: r.Num(numberSize), Root: r.Num(rootSize)})
	}
	_, read := r.Done()
	if !areRight(x.volumes) || body[read:] != none[read:] {
		return record{}
	}
	return x
}

// areRight tells whether volumes may be, and rise.
func areRight(l []api.Volume) bool {
	for k, v := range l {
		if v.Number > api.MaxVolume || v.Root > maxRoot || k > 0 && v.Number <= l[k-1].Number {
			return false
		}
	}
	return true
}
