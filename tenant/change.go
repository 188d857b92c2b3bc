package tenant

import "strongbox/api"

// ask is what a call is given: what it is not given is 0, which may be of all but a tenant.
type ask struct {
	tenant int
	quota  int
	volume api.Volume
	more   int
}

// isRight tells whether each number of it may be.
func (a ask) isRight() bool {
	return isTenant(a.tenant) && isQuota(a.quota) && isVolume(a.volume)
}

// change is how a page is changed: what may be wrong with a record (and with how much is left), what is made of it.
type change struct {
	wrong func(r record, left int, a ask) api.Errno
	done  func(r record, a ask) record
}

// changeTable has a change for each call that changes something.
type changeTable struct {
	add, remove, addVolume, removeVolume, charge change
}

// changes is that table.
func changes() changeTable {
	return changeTable{
		add: change{
			wrong: wrongToAdd,
			done:  func(_ record, a ask) record { return record{isThere: true, quota: a.quota} },
		},
		remove: change{
			wrong: wrongToRemove,
			done:  func(record, ask) record { return record{} },
		},
		addVolume: change{
			wrong: wrongToAddVolume,
			done:  func(r record, a ask) record { return r.with(a.volume) },
		},
		removeVolume: change{
			wrong: wrongToRemoveVolume,
			done:  func(r record, a ask) record { return r.without(a.volume.Number) },
		},
		charge: change{
			wrong: wrongToCharge,
			done:  record.charged,
		},
	}
}

// wrongToAdd: a tenant comes once, and with no more than is left.
func wrongToAdd(r record, left int, a ask) api.Errno {
	switch {
	case r.isThere:
		return api.ErrTenantTwice
	case a.quota > left:
		return api.ErrTenantRoom
	}
	return api.OK
}

// wrongToRemove: a tenant with volumes stays.
func wrongToRemove(r record, _ int, _ ask) api.Errno {
	switch {
	case !r.isThere:
		return api.ErrTenantNone
	case r.count > 0:
		return api.ErrTenantUsed
	}
	return api.OK
}

// wrongToAddVolume: a volume comes once, and where one more may be.
func wrongToAddVolume(r record, _ int, a ask) api.Errno {
	_, has := r.seat(a.volume.Number)
	switch {
	case !r.isThere:
		return api.ErrTenantNone
	case has:
		return api.ErrVolumeTwice
	case r.count == len(r.volumes):
		return api.ErrVolumeMany
	}
	return api.OK
}

// wrongToRemoveVolume: only a volume that is there goes.
func wrongToRemoveVolume(r record, _ int, a ask) api.Errno {
	_, has := r.seat(a.volume.Number)
	switch {
	case !r.isThere:
		return api.ErrTenantNone
	case !has:
		return api.ErrVolumeNone
	}
	return api.OK
}

// wrongToCharge: a charge is from 0 to the quota.
func wrongToCharge(r record, _ int, a ask) api.Errno {
	// Differences of what is small, not the sum with more, which may be any number: that one could wrap round.
	switch {
	case !r.isThere:
		return api.ErrTenantNone
	case a.more < -r.charge:
		return api.ErrTenantCharge
	case a.more > r.quota-r.charge:
		return api.ErrTenantQuota
	}
	return api.OK
}
