package play

import (
	"strconv"
	"strings"

	"strongbox/api"
	"strongbox/audit"
	"strongbox/client"
	"strongbox/disk"
	"strongbox/hash"
	"strongbox/server"
	"strongbox/wire"
)

// Admin is the asker who is no tenant.
const Admin = 0

// firstDomain is that of each client until it is made anew.
const firstDomain = "d"

// Store is a disk, a server on it, and a client of each tenant.
type Store struct {
	Disk    *disk.Disk
	server  *server.Server
	clients [api.MaxTenants + 1]*client.Client // by tenants
	frames  int                                // how many were sent, to servers that are dead by now too
}

// Begin lays an empty store down on a new disk; what is told of it.
func (s *Store) Begin(sectors int) string {
	// None of these is refused: a line's number of sectors is one that a disk may have, and nobody dies yet.
	d, _ := disk.New(sectors)
	layout, _ := server.LayoutOf(sectors)
	server.Format(d)
	s.Open(d)
	for k := range api.MaxTenants {
		s.Renew(k+1, firstDomain)
	}
	return "sectors " + strconv.Itoa(sectors) + " data " + strconv.Itoa(layout.Count)
}

// Open opens a server on a disk: they are the store's from then on, if the disk does not die of that.
func (s *Store) Open(d *disk.Disk) {
	s.Disk = d
	s.server, _ = server.Open(d)
}

// Renew makes a tenant's client anew, of a domain.
func (s *Store) Renew(tenant int, domain string) {
	// It is not refused: a digest is as long as a key.
	s.clients[tenant], _ = client.New(hash.Sum("domain "+domain), hash.Sum("master "+strconv.Itoa(tenant)))
}

// SendFrame sends a frame of somebody's; the reply, or nothing, if the disk dies.
func (s *Store) SendFrame(asker int, frame string) string {
	s.frames++
	draw := hash.Sum("draw " + strconv.Itoa(s.frames))[:api.DrawSize]
	reply, _ := s.server.Handle(asker, frame, draw)
	return reply
}

// Send sends a request of somebody's; the reply, if the disk lives.
func (s *Store) Send(asker int, r api.Request) api.Reply {
	// No line says a request that may not be, and a server whose disk lives replies to what it was asked.
	frame, _ := wire.EncodeRequest(r)
	reply, _ := wire.DecodeReply(r.Kind, s.SendFrame(asker, frame))
	return reply
}

// Ask sends a request of somebody's; what is told of its reply.
func (s *Store) Ask(asker int, r api.Request) string {
	return outcome(r.Kind, s.Send(asker, r))
}

// Write lets a tenant's client write a word to a block; what is told of that.
func (s *Store) Write(tenant, volume, block int, word string) string {
	// Neither this nor what else a client begins is refused: it waits for nothing between lines, and no line says a place that may not be.
	frame, _ := s.clients[tenant].Write(volume, block, blockOf(word))
	return s.through(tenant, frame)
}

// Read lets a tenant's client read a block; what is told of that.
func (s *Store) Read(tenant, volume, block int) string {
	frame, _ := s.clients[tenant].Read(volume, block)
	return s.through(tenant, frame)
}

// Trim lets a tenant's client unmap a block; what is told of that.
func (s *Store) Trim(tenant, volume, block int) string {
	frame, _ := s.clients[tenant].Trim(volume, block)
	return s.through(tenant, frame)
}

// blockOf is the block that is a word, and noughts behind it.
func blockOf(word string) string {
	return word + strings.Repeat("\x00", api.SectorSize-len(word))
}

// through sends what a tenant's client says, frame upon frame till it is over; what is told of that, or nothing, if the disk dies.
func (s *Store) through(tenant int, frame string) string {
	c := s.clients[tenant]
	for {
		reply := s.SendFrame(tenant, frame)
		if s.Disk.Dead() {
			c.Cancel()
			return ""
		}
		step, errno := c.Take(reply)
		// A server replies to what it was asked: so there is no error but ErrClientLost.
		if errno != api.OK {
			return "lost"
		}
		if step.Over {
			r, _ := wire.DecodeRequest(frame)
			return outcome(r.Kind, api.Reply{Status: step.Status, Data: step.Plain})
		}
		frame = step.Frame
	}
}

// Audit is what is told of an audit of the disk's image.
func (s *Store) Audit() string {
	// An image that a disk tells is one, so there is no error.
	found, _, _ := audit.Look(s.Disk.Image())
	return "findings " + strconv.Itoa(len(found))
}

// Totals is what is told of the server's totals, if the disk lives.
func (s *Store) Totals() string {
	t, _ := s.server.Totals()
	return totalsText(t)
}
