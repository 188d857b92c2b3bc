package world

import (
	"strconv"

	"strongbox/api"
	"strongbox/hash"
	"strongbox/play"
)

// world is a store, and the deaths to come.
type world struct {
	play.Store
	row  []death
	told int // how many of the disk's acts are told already
}

// play does a line; what is told of it.
func (w *world) play(l play.Line) string {
	told := w.do(l)
	// What a line in which the disk dies would have told is not known to anybody.
	if w.Disk.Dead() {
		return "died " + strconv.Itoa(w.revive())
	}
	return told
}

// do does a line, as long as the disk lives; what is told of it then.
func (w *world) do(l play.Line) string {
	tenant, volume, block := l.Num("T"), l.Num("V"), l.Num("B")
	switch l.Form {
	case lineDisk:
		return w.begin(l.Num("S"))
	case lineAdd:
		return w.Ask(play.Admin, api.Request{Kind: api.AskAddTenant, Tenant: tenant, Quota: l.Num("Q")})
	case lineRemove:
		return w.Ask(play.Admin, api.Request{Kind: api.AskRemoveTenant, Tenant: tenant})
	case lineLook:
		return w.Ask(play.Admin, api.Request{Kind: api.AskTenant, Tenant: tenant})
	case lineVol:
		return w.Ask(tenant, api.Request{Kind: api.AskAddVolume, Volume: volume})
	case lineUnvol:
		return w.Ask(tenant, api.Request{Kind: api.AskRemoveVolume, Volume: volume})
	case lineVols:
		return w.Ask(tenant, api.Request{Kind: api.AskVolumes})
	case lineStat:
		return w.Ask(tenant, api.Request{Kind: api.AskStat})
	case lineWrite:
		return w.Write(tenant, volume, block, l.Text("WORD"))
	case lineRead:
		return w.Read(tenant, volume, block)
	case lineTrim:
		return w.Trim(tenant, volume, block)
	case lineRaw:
		return w.raw(tenant, l.Text("HEX"))
	case lineDomain:
		w.Renew(tenant, l.Text("WORD"))
		return "ok"
	case lineArm:
		w.await(death{act: l.Num("N"), bits: l.Text("BITS")})
		return "ok"
	case linePower:
		w.reopen(nil)
		return "up"
	case lineAudit:
		return w.Audit()
	case lineTotals:
		return w.Totals()
	}
	return "acts " + strconv.Itoa(w.newActs())
}

// begin lays an empty store down; what is told of it.
func (w *world) begin(sectors int) string {
	told := w.Begin(sectors)
	w.newActs()
	return told
}

// raw sends a tenant's frame that a word says by two signs for each byte; what is told of the reply.
func (w *world) raw(tenant int, word string) string {
	// A line was taken only if these are such signs.
	frame, _ := hash.Unhex(word)
	return "reply " + hash.Hex(w.SendFrame(tenant, frame))
}

// newActs is how many acts the disk has done that are not told yet; now they are.
func (w *world) newActs() int {
	ahead := w.told
	w.told = len(w.Disk.Trace())
	return w.told - ahead
}
