package tenant

import (
	"strongbox/api"
	"strongbox/pack"
)

// roll is what all pages tell, that of tenant 1 first.
type roll [api.MaxTenants]record

// of is the record of a tenant.
func (l roll) of(tenant int) record { return l[tenant-1] }

// quotas is what was promised to all together.
func (l roll) quotas() int {
	sum := 0
	for _, r := range l {
		sum += r.quota
	}
	return sum
}

// left is how much of the capacity no quota has: below 0, if a table of a greater one stands over the same pages.
func (t *Table) left(all roll) int { return t.capacity - all.quotas() }

// sector is where the page of a tenant stands.
func (t *Table) sector(tenant int) int { return t.at + tenant - 1 }

// sectorOf is the page of a tenant, as a sector.
func sectorOf(tenant int, r record) string {
	// None is refused: the numbers are small, and a body is shorter than a page's may be.
	sector, _ := pack.MakePage(api.Page{Kind: api.PageTenant, Number: tenant, Body: r.body()})
	return sector
}

// recordOf is what the page of a tenant tells; false, if the sector is no such page.
func recordOf(tenant int, sector string) (record, bool) {
	page, errno := pack.ParsePage(sector)
	if errno != api.OK || page.Kind != api.PageTenant || page.Number != tenant {
		return record{}, false
	}
	return parseRecord(page.Body)
}

// read is what all pages tell, as the transaction sees them.
func (t *Table) read() (roll, api.Errno) {
	var all roll
	for k := range all {
		tenant := k + 1
		sector, errno := t.pool.Read(t.sector(tenant))
		if errno != api.OK {
			return roll{}, errno
		}
		// Behind Open too: whoever writes to the pool may have laid something else there.
		r, isRight := recordOf(tenant, sector)
		if !isRight {
			return roll{}, api.ErrTenantForm
		}
		all[k] = r
	}
	return all, api.OK
}

// find is the record of a tenant who is asked for.
func (t *Table) find(a ask) (record, api.Errno) {
	if !a.isRight() {
		return record{}, api.ErrArg
	}
	all, errno := t.read()
	if errno != api.OK {
		return record{}, errno
	}
	r := all.of(a.tenant)
	if !r.isThere {
		return record{}, api.ErrTenantNone
	}
	return r, api.OK
}

// isChangeable tells whether a transaction is open.
func (t *Table) isChangeable() bool {
	// A pool tells it only by refusing another one; one that it does not refuse is ended ahead of anything being written.
	errno := t.pool.Begin()
	if errno == api.OK {
		t.pool.Abort()
	}
	return errno == api.ErrPoolOpen
}

// change changes the page of a tenant, and writes no other one.
func (t *Table) change(c change, a ask) api.Errno {
	if !a.isRight() {
		return api.ErrArg
	}
	if !t.isChangeable() {
		return api.ErrPoolNone
	}
	all, errno := t.read()
	if errno != api.OK {
		return errno
	}
	r := all.of(a.tenant)
	if errno = c.wrong(r, t.left(all), a); errno != api.OK {
		return errno
	}
	return t.pool.Write(t.sector(a.tenant), sectorOf(a.tenant, c.done(r, a)))
}
