package world

import (
	"strconv"
	"strings"

	"strongbox/api"
	"strongbox/audit"
	"strongbox/client"
	"strongbox/disk"
	"strongbox/hash"
	"strongbox/server"
	"strongbox/wire"
)

// admin is the asker who is no tenant.
const admin = 0

// firstDomain is that of each client until a line tells another one.
const firstDomain = "d"

// world is a store, who asks it, and the deaths to come.
type world struct {
	disk    *disk.Disk
	server  *server.Server
	clients [api.MaxTenants + 1]*client.Client // by tenants
	row     []death
	frames  int // how many were sent, to servers that are dead by now too
	told    int // how many of the disk's acts are told already
}

// play does a line; what is told of it.
func (w *world) play(l line) string {
	told := w.do(l)
	// What a line in which the disk dies would have told is not known to anybody.
	if w.disk.Dead() {
		return "died " + strconv.Itoa(w.revive())
	}
	return told
}

// do does a line, as long as the disk lives; what is told of it then.
func (w *world) do(l line) string {
	switch l.kind {
	case lineDisk:
		return w.begin(l.sectors)
	case lineAdd:
		return w.ask(admin, api.Request{Kind: api.AskAddTenant, Tenant: l.tenant, Quota: l.quota})
	case lineRemove:
		return w.ask(admin, api.Request{Kind: api.AskRemoveTenant, Tenant: l.tenant})
	case lineLook:
		return w.ask(admin, api.Request{Kind: api.AskTenant, Tenant: l.tenant})
	case lineVol:
		return w.ask(l.tenant, api.Request{Kind: api.AskAddVolume, Volume: l.volume})
	case lineUnvol:
		return w.ask(l.tenant, api.Request{Kind: api.AskRemoveVolume, Volume: l.volume})
	case lineVols:
		return w.ask(l.tenant, api.Request{Kind: api.AskVolumes})
	case lineStat:
		return w.ask(l.tenant, api.Request{Kind: api.AskStat})
	case lineWrite, lineRead, lineTrim:
		return w.through(l.tenant, w.firstFrame(l))
	case lineRaw:
		return "reply " + hash.Hex(w.send(l.tenant, l.frame))
	case lineDomain:
		w.clients[l.tenant] = clientOf(l.tenant, l.word)
		return "ok"
	case lineArm:
		w.await(death{act: l.act, bits: l.bits})
		return "ok"
	case linePower:
		w.reopen(nil)
		return "up"
	case lineAudit:
		// An image that a disk tells is one, so there is no error.
		found, _, _ := audit.Look(w.disk.Image())
		return "findings " + strconv.Itoa(len(found))
	case lineTotals:
		// The disk lives between lines, so the server tells.
		t, _ := w.server.Totals()
		return totalsText(t)
	}
	return "acts " + strconv.Itoa(w.newActs())
}

// begin lays an empty store down; what is told of it.
func (w *world) begin(sectors int) string {
	// None of these is refused: a line's number of sectors is one that a disk may have, and the disk is not armed yet.
	w.disk, _ = disk.New(sectors)
	layout, _ := server.LayoutOf(sectors)
	server.Format(w.disk)
	w.server, _ = server.Open(w.disk)
	for k := range api.MaxTenants {
		w.clients[k+1] = clientOf(k+1, firstDomain)
	}
	w.newActs()
	return "sectors " + strconv.Itoa(sectors) + " data " + strconv.Itoa(layout.Count)
}

// clientOf is a new client of a tenant's.
func clientOf(tenant int, domain string) *client.Client {
	// It is not refused: a digest is as long as a key.
	c, _ := client.New(hash.Sum("domain "+domain), hash.Sum("master "+strconv.Itoa(tenant)))
	return c
}

// newActs is how many acts the disk has done that are not told yet; now they are.
func (w *world) newActs() int {
	ahead := w.told
	w.told = len(w.disk.Trace())
	return w.told - ahead
}

// send sends a frame of somebody's; the reply, or nothing, if the disk dies.
func (w *world) send(asker int, frame string) string {
	w.frames++
	draw := hash.Sum("draw " + strconv.Itoa(w.frames))[:api.DrawSize]
	reply, _ := w.server.Handle(asker, frame, draw)
	return reply
}

// ask sends a request of somebody's; what is told of its reply.
func (w *world) ask(asker int, r api.Request) string {
	// No line says a request that may not be, and a server whose disk lives replies to what it was asked.
	frame, _ := wire.EncodeRequest(r)
	reply, _ := wire.DecodeReply(r.Kind, w.send(asker, frame))
	return outcome(r.Kind, reply)
}

// firstFrame is the frame by which a tenant's client begins what a line says.
func (w *world) firstFrame(l line) string {
	c := w.clients[l.tenant]
	frame := ""
	// None is refused: the client waits for nothing between lines, and no line says a place that may not be.
	switch l.kind {
	case lineWrite:
		frame, _ = c.Write(l.volume, l.block, blockOf(l.word))
	case lineRead:
		frame, _ = c.Read(l.volume, l.block)
	case lineTrim:
		frame, _ = c.Trim(l.volume, l.block)
	}
	return frame
}

// blockOf is the block that is a word, and noughts behind it.
func blockOf(word string) string {
	return word + strings.Repeat("\x00", api.SectorSize-len(word))
}

// through sends what a tenant's client says, frame upon frame till it is over, or the disk dies; what is told of it.
func (w *world) through(tenant int, frame string) string {
	c := w.clients[tenant]
	for {
		reply := w.send(tenant, frame)
		if w.disk.Dead() {
			c.Cancel()
			return ""
		}
		step, errno := c.Take(reply)
		// A server replies to what it was asked: so there is no error but ErrClientLost.
		if errno != api.OK {
			return "lost"
		}
		if step.Over {
			r, _ := wire.DecodeRequest(frame)
			return outcome(r.Kind, api.Reply{Status: step.Status, Data: step.Plain})
		}
		frame = step.Frame
	}
}
