package chunk

import (
	"errors"

	"strongbox/api"
	"strongbox/pool"
	"strongbox/seal"
)

// isWhole tells whether no part is missing: without one there is no chunk, and none can come.
func (s *Store) isWhole() bool {
	return s.pool != nil && s.taken != nil && s.index != nil
}

// wantOpen is nil, if a transaction is open.
func (s *Store) wantOpen() error {
	if s.isWhole() && isOpen(s.pool) {
		return nil
	}
	return while("asking for a transaction", api.ErrPoolNone)
}

// isOpen tells whether a pool's transaction is.
func isOpen(p *pool.Pool) bool {
	// A pool tells it only by refusing another one; one that it does not refuse is ended ahead of anything being written.
	errno := p.Begin()
	if errno == api.OK {
		p.Abort()
	}
	return errno == api.ErrPoolOpen
}

// find is what the index says of a chunk; errNone, if it is not there.
func (s *Store) find(digest string) (api.Slot, error) {
	if !s.isWhole() {
		return api.Slot{}, errNone
	}
	place, stands := s.index.Find(digest)
	if !stands {
		return api.Slot{}, errNone
	}
	slot, errno := s.index.Get(place)
	return slot, while("asking how often it is counted", errno)
}

// findToChange is find, for one that is to be changed in the open transaction.
func (s *Store) findToChange(digest string) (api.Slot, error) {
	if err := s.wantOpen(); err != nil {
		return api.Slot{}, err
	}
	return s.find(digest)
}

// save tells the digest, and whether the chunk was not there.
func (s *Store) save(cipher string) (string, bool, error) {
	digest, errno := seal.Digest(cipher)
	if errno != api.OK {
		return "", false, while("making the digest", errno)
	}
	slot, err := s.findToChange(digest)
	switch {
	case err == nil:
		return digest, false, s.saveAgain(slot, cipher)
	case errors.Is(err, errNone):
		return digest, true, s.saveNew(digest, cipher)
	}
	return "", false, err
}

// saveAgain counts a chunk once more, if these are its bytes.
func (s *Store) saveAgain(slot api.Slot, cipher string) error {
	stored, err := s.read(slot.Place)
	if err != nil {
		return err
	}
	if stored != cipher {
		return errClash
	}
	return s.countUp(slot)
}

// saveNew takes the least free place for a chunk. What it has written stays written where it is broken off: the caller aborts.
func (s *Store) saveNew(digest, cipher string) error {
	place, errno := s.taken.Alloc()
	if errno != api.OK {
		return while("taking a place", errno)
	}
	if errno = s.pool.Write(s.first+place, cipher); errno != api.OK {
		return while("writing the bytes", errno)
	}
	return while("noting the digest", s.index.Put(api.Slot{Place: place, Digest: digest, Count: 1}))
}

// read is the bytes of a place, as the transaction sees them.
func (s *Store) read(place int) (string, error) {
	cipher, errno := s.pool.Read(s.first + place)
	return cipher, while("reading the bytes", errno)
}

// countUp counts a chunk once more.
func (s *Store) countUp(slot api.Slot) error {
	if slot.Count == api.MaxCount {
		return errCount
	}
	slot.Count++
	return while("counting once more", s.index.Put(slot))
}

// countDown counts a chunk once less, which stays.
func (s *Store) countDown(slot api.Slot) error {
	slot.Count--
	return while("counting once less", s.index.Put(slot))
}

// remove lets nothing stand at a place, and gives it back.
func (s *Store) remove(place int) error {
	if errno := s.index.Clear(place); errno != api.OK {
		return while("forgetting the digest", errno)
	}
	return while("giving the place back", s.taken.Free(place))
}
