package server

import (
	"strings"

	"strongbox/api"
	"strongbox/hash"
	"strongbox/proof"
)

// spot is a block of a volume, ahead of being changed.
type spot struct {
	owner       int
	root, block int
	was         api.Entry // what it is mapped to; the entry that holds nothing, if it is not
	more        int       // what is charged more when it is mapped
}

// isMapped tells whether the block is.
func (at spot) isMapped() bool { return at.was != api.Entry{} }

// seek finds a block of an owner's volume, mapped or not.
func (s *Server) seek(owner api.Tenant, volume, block int) (spot, api.Errno) {
	root, errno := s.table.Root(owner.Number, volume)
	if errno != api.OK {
		return spot{}, errno
	}
	was, errno := s.volumes.Get(root, block)
	if errno != api.OK && errno != api.ErrManifestNone {
		return spot{}, errno
	}
	return spot{owner: owner.Number, root: root, block: block, was: was}, api.OK
}

// seekMapped finds one that is mapped.
func (s *Server) seekMapped(owner api.Tenant, volume, block int) (spot, api.Errno) {
	at, errno := s.seek(owner, volume, block)
	if errno == api.OK && !at.isMapped() {
		return spot{}, api.ErrManifestNone
	}
	return at, errno
}

// seekRoom finds one that the owner's quota lets be mapped, or mapped anew.
func (s *Server) seekRoom(owner api.Tenant, volume, block int) (spot, api.Errno) {
	at, errno := s.seek(owner, volume, block)
	if errno != api.OK || at.isMapped() {
		return at, errno
	}
	pages, errno := s.volumes.Grows(at.root, at.block)
	if errno != api.OK {
		return spot{}, errno
	}
	at.more = 1 + pages
	if owner.Charge+at.more > owner.Quota {
		return spot{}, api.ErrTenantQuota
	}
	return at, api.OK
}

// point maps a block, in the open transaction, to a chunk that is counted for it already.
func (s *Server) point(at spot, to api.Entry) api.Errno {
	if _, errno := s.volumes.Set(at.root, at.block, to); errno != api.OK {
		return errno
	}
	if at.isMapped() {
		if _, errno := s.chunks.Drop(at.was.Digest); errno != api.OK {
			return errno
		}
	}
	return s.table.Charge(at.owner, at.more)
}

// offer makes a challenge. Whether there is such a chunk is not asked: so nobody learns of it.
func (s *Server) offer(c call) (api.Reply, api.Errno) {
	if _, errno := s.seekRoom(c.asker, c.Volume, c.Block); errno != api.OK {
		return api.Reply{}, errno
	}
	// Copies, for the frame may be a piece of a long text, which would be kept whole.
	o := api.Offer{Volume: c.Volume, Block: c.Block, Digest: strings.Clone(c.Digest), Wrapped: strings.Clone(c.Wrapped)}
	nonce, places, errno := s.book.Offer(c.asker.Number, o, c.draw)
	return api.Reply{Status: api.Challenge, Nonce: nonce, Places: places}, errno
}

// prove maps the block of a challenge, if the sample is right.
func (s *Server) prove(c call) (api.Reply, api.Errno) {
	o, places, errno := s.book.Take(c.asker.Number, c.Nonce)
	if errno != api.OK {
		return api.Reply{}, errno
	}
	at, errno := s.seekRoom(c.asker, o.Volume, o.Block)
	if errno != api.OK {
		return api.Reply{}, errno
	}
	sample, errno := s.sampleOf(o.Digest, places)
	if errno != api.OK {
		return api.Reply{}, errno
	}
	if !hash.Same(sample, c.Sample) {
		return api.Reply{Status: api.Need}, api.OK
	}
	return s.change(func() api.Errno {
		if errno := s.chunks.Hold(o.Digest); errno != api.OK {
			return errno
		}
		return s.point(at, api.Entry{Digest: o.Digest, Wrapped: o.Wrapped})
	})
}

// sampleOf is the bytes at places of a chunk that is there.
func (s *Server) sampleOf(digest string, places []int) (string, api.Errno) {
	cipher, errno := s.chunks.Load(digest)
	if errno != api.OK {
		return "", errno
	}
	return proof.SampleOf(cipher, places)
}

// upload maps a block to a chunk that is sent.
func (s *Server) upload(c call) (api.Reply, api.Errno) {
	at, errno := s.seekRoom(c.asker, c.Volume, c.Block)
	if errno != api.OK {
		return api.Reply{}, errno
	}
	return s.change(func() api.Errno {
		digest, _, errno := s.chunks.Save(c.Data)
		if errno != api.OK {
			return errno
		}
		return s.point(at, api.Entry{Digest: digest, Wrapped: c.Wrapped})
	})
}

// read tells what a block is mapped to.
func (s *Server) read(c call) (api.Reply, api.Errno) {
	at, errno := s.seekMapped(c.asker, c.Volume, c.Block)
	if errno != api.OK {
		return api.Reply{}, errno
	}
	cipher, errno := s.chunks.Load(at.was.Digest)
	if errno != api.OK {
		return api.Reply{}, errno
	}
	return api.Reply{Status: api.Done, Wrapped: at.was.Wrapped, Data: cipher}, api.OK
}

// trim lets a block be mapped no more.
func (s *Server) trim(c call) (api.Reply, api.Errno) {
	at, errno := s.seekMapped(c.asker, c.Volume, c.Block)
	if errno != api.OK {
		return api.Reply{}, errno
	}
	return s.change(func() api.Errno {
		pages, errno := s.volumes.Clear(at.root, at.block)
		if errno != api.OK {
			return errno
		}
		if _, errno = s.chunks.Drop(at.was.Digest); errno != api.OK {
			return errno
		}
		return s.table.Charge(at.owner, -1-pages)
	})
}
