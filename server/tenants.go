package server

import "strongbox/api"

// addTenant makes a tenant.
func (s *Server) addTenant(c call) (api.Reply, api.Errno) {
	return s.change(func() api.Errno { return s.table.Add(c.Tenant, c.Quota) })
}

// removeTenant ends one.
func (s *Server) removeTenant(c call) (api.Reply, api.Errno) {
	reply, errno := s.change(func() api.Errno { return s.table.Remove(c.Tenant) })
	if errno == api.OK {
		// Who comes under that number later has offered nothing.
		s.book.Forget(c.Tenant)
	}
	return reply, errno
}

// tellTenant tells the admin of one.
func (s *Server) tellTenant(c call) (api.Reply, api.Errno) {
	t, errno := s.table.Get(c.Tenant)
	if errno != api.OK {
		return api.Reply{}, errno
	}
	return api.Reply{Status: api.Done, Quota: t.Quota, Charge: t.Charge, Volumes: numbersOf(t)}, api.OK
}

// tellVolumes tells the asker of its volumes.
func (s *Server) tellVolumes(c call) (api.Reply, api.Errno) {
	return api.Reply{Status: api.Done, Volumes: numbersOf(c.asker)}, api.OK
}

// stat tells the asker what was promised to it, and what it is charged.
func (s *Server) stat(c call) (api.Reply, api.Errno) {
	return api.Reply{Status: api.Done, Quota: c.asker.Quota, Charge: c.asker.Charge}, api.OK
}

// numbersOf are the numbers of a tenant's volumes, rising.
func numbersOf(t api.Tenant) []int {
	var l []int
	for _, v := range t.Volumes {
		// The table has room for a volume 0, which no frame can name: only others can have put it there.
		if v.Number > 0 {
			l = append(l, v.Number)
		}
	}
	return l
}

// addVolume makes a volume of the asker's.
func (s *Server) addVolume(c call) (api.Reply, api.Errno) {
	owner := c.asker.Number
	return s.change(func() api.Errno {
		root, errno := s.volumes.Create(owner, c.Volume)
		if errno != api.OK {
			return errno
		}
		if errno = s.table.AddVolume(owner, c.Volume, root); errno != api.OK {
			return errno
		}
		return s.table.Charge(owner, 1)
	})
}

// removeVolume ends one.
func (s *Server) removeVolume(c call) (api.Reply, api.Errno) {
	owner := c.asker.Number
	return s.change(func() api.Errno {
		root, errno := s.table.Root(owner, c.Volume)
		if errno != api.OK {
			return errno
		}
		if errno = s.volumes.Destroy(root); errno != api.OK {
			return errno
		}
		if errno = s.table.RemoveVolume(owner, c.Volume); errno != api.OK {
			return errno
		}
		return s.table.Charge(owner, -1)
	})
}
