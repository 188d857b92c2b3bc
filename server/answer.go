package server

import (
	"strongbox/api"
	"strongbox/wire"
)

// noRequest is the kind that the reply to what is no request is one to.
const noRequest = 0

// call is a request that may be asked: of whom (of the admin nobody), and by which draw.
type call struct {
	api.Request
	asker api.Tenant
	draw  string
}

// service serves the requests of one kind: its reply, or what a layer below says, which makes the reply.
type service func(c call) (api.Reply, api.Errno)

// services are those of all kinds.
func (s *Server) services() [api.AskTrim + 1]service {
	return [...]service{
		api.AskAddTenant:    s.addTenant,
		api.AskRemoveTenant: s.removeTenant,
		api.AskTenant:       s.tellTenant,
		api.AskAddVolume:    s.addVolume,
		api.AskRemoveVolume: s.removeVolume,
		api.AskVolumes:      s.tellVolumes,
		api.AskStat:         s.stat,
		api.AskOffer:        s.offer,
		api.AskProve:        s.prove,
		api.AskUpload:       s.upload,
		api.AskRead:         s.read,
		api.AskTrim:         s.trim,
	}
}

// isAdmins tells whether a kind of requests is the admin's, not the tenants'.
func isAdmins(kind int) bool { return kind <= api.AskTenant }

// answer is the reply to a frame, and to which kind; or what a layer below says of it.
func (s *Server) answer(asker int, frame, draw string) (int, api.Reply, api.Errno) {
	r, errno := wire.DecodeRequest(frame)
	if errno != api.OK {
		return noRequest, api.Reply{Status: api.BadFrame}, api.OK
	}
	if isAdmins(r.Kind) != (asker == admin) {
		return r.Kind, api.Reply{Status: api.NotAllowed}, api.OK
	}
	c := call{Request: r, draw: draw}
	if asker != admin {
		if c.asker, errno = s.table.Get(asker); errno != api.OK {
			return r.Kind, api.Reply{}, errno
		}
	}
	reply, errno := s.services()[r.Kind](c)
	return r.Kind, reply, errno
}

// statusOf is how a request went of which a layer below says this.
func statusOf(errno api.Errno) api.Status {
	switch errno {
	case api.ErrTenantNone:
		return api.NoTenant
	case api.ErrTenantTwice, api.ErrVolumeTwice, api.ErrChunkClash:
		return api.Exists
	case api.ErrTenantRoom, api.ErrChunkFull, api.ErrManifestFull:
		return api.NoRoom
	case api.ErrTenantUsed, api.ErrManifestUsed:
		return api.NotEmpty
	case api.ErrVolumeMany:
		return api.TooMany
	case api.ErrTenantQuota:
		return api.OverQuota
	case api.ErrManifestBlock:
		return api.OutOfRange
	case api.ErrManifestNone, api.ErrProofNone:
		return api.Unmapped
	case api.ErrChunkNone:
		return api.Need
	}
	// ErrVolumeNone; and whatever is said where others have changed the store, so that a volume, or what it is mapped to, is none any more.
	return api.NoVolume
}

// change does what a request asks for as one transaction, which is committed, or taken back.
func (s *Server) change(do func() api.Errno) (api.Reply, api.Errno) {
	if errno := s.pool.Begin(); errno != api.OK {
		return api.Reply{}, errno
	}
	committed := false
	defer func() {
		if !committed {
			s.takeBack()
		}
	}()
	if errno := do(); errno != api.OK {
		return api.Reply{}, errno
	}
	if errno := s.pool.Commit(); errno != api.OK {
		return api.Reply{}, errno
	}
	committed = true
	return api.Reply{Status: api.Done}, api.OK
}

// takeBack lets the store be what it was at Begin.
func (s *Server) takeBack() {
	// What they answer is no matter: where the commit has ended the transaction, or the disk is dead, the server is lost.
	s.pool.Abort()
	s.index.Reload()
}
