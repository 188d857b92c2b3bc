package chunk

import (
	"errors"
	"strings"
	"testing"

	"strongbox/api"
	"strongbox/bitmap"
	"strongbox/disk"
	"strongbox/index"
	"strongbox/journal"
	"strongbox/pool"
)

// fresh is a store of one place on a new disk, and the disk; a transaction is open.
func fresh(t *testing.T) (*Store, *disk.Disk) {
	t.Helper()
	d, e := disk.New(128)
	if e != api.OK || journal.Format(d) != api.OK {
		t.Fatal("there is no disk")
	}
	taken, _ := bitmap.Initial(1)
	slots, _ := index.Initial(1)
	for i, s := range append(taken, slots...) {
		if d.Write(19+i, s) != api.OK {
			t.Fatal("a page is not written")
		}
	}
	p, _ := pool.Open(d, 0)
	m, _ := bitmap.Open(p, 19, 1)
	x, _ := index.Open(p, 20, 1)
	if p == nil || m == nil || x == nil || p.Begin() != api.OK {
		t.Fatal("there are no parts")
	}
	return Open(p, m, x, 21), d
}

// fill lets the transaction have written so many sectors that are nobody's.
func fill(s *Store, others int) {
	for i := range others {
		s.pool.Write(60+i, strings.Repeat("o", 256))
	}
}

// isWrapped holds an error within against what was being done, and what the face tells of it.
func isWrapped(t *testing.T, err error, doing string, below, want api.Errno) {
	t.Helper()
	if err == nil || !strings.HasPrefix(err.Error(), doing+": ") || !errors.Is(err, said(below)) || answerOf(err) != want {
		t.Fatalf("%v, which the face tells as %d, want that of %q, which is told as %d", err, answerOf(err), doing, want)
	}
	if errors.Unwrap(err) != error(said(below)) {
		t.Fatalf("%v wraps %v, want %d", err, errors.Unwrap(err), below)
	}
}

func TestWaysWhatALayerBelowSaysIsWrapped(t *testing.T) {
	a, b := strings.Repeat("a", 256), strings.Repeat("b", 256)
	s, d := fresh(t)
	_, _, err := s.save("")
	isWrapped(t, err, "making the digest", api.ErrSealSize, api.ErrChunkSize)
	digest, isNew, err := s.save(a)
	if !isNew || err != nil {
		t.Fatalf("save = %v, %v", isNew, err)
	}
	_, _, err = s.save(b)
	isWrapped(t, err, "taking a place", api.ErrBitmapFull, api.ErrChunkFull)
	s.pool.Commit()
	_, _, err = s.save(a)
	isWrapped(t, err, "asking for a transaction", api.ErrPoolNone, api.ErrPoolNone)
	s.pool.Begin()
	fill(s, 16)
	slot, err := s.find(digest)
	if err != nil || slot.Count != 1 {
		t.Fatalf("find = %v, %v", slot, err)
	}
	isWrapped(t, s.countUp(slot), "counting once more", api.ErrPoolFull, api.ErrPoolFull)
	isWrapped(t, s.remove(0), "forgetting the digest", api.ErrPoolFull, api.ErrPoolFull)
	slot.Count = 2
	isWrapped(t, s.countDown(slot), "counting once less", api.ErrPoolFull, api.ErrPoolFull)
	s.pool.Abort()
	s.pool.Begin()
	fill(s, 15)
	isWrapped(t, s.remove(0), "giving the place back", api.ErrPoolFull, api.ErrPoolFull)
	d.Arm(1)
	d.Flush()
	_, err = s.read(0)
	isWrapped(t, err, "reading the bytes", api.ErrDead, api.ErrDead)
}

func TestWaysWhereANewChunkIsBrokenOff(t *testing.T) {
	for others, doing := range map[int]string{16: "taking a place", 15: "writing the bytes", 14: "noting the digest"} {
		s, _ := fresh(t)
		fill(s, others)
		isWrapped(t, s.saveNew(strings.Repeat("d", 32), strings.Repeat("a", 256)), doing, api.ErrPoolFull, api.ErrPoolFull)
	}
}

func TestWaysTheFaceAsksWhichErrorItIs(t *testing.T) {
	own := map[api.Errno]error{api.OK: nil, api.ErrChunkNone: errNone, api.ErrChunkCount: errCount, api.ErrChunkClash: errClash}
	for want, err := range own {
		if e := answerOf(err); e != want {
			t.Fatalf("%v is told as %d, want %d", err, e, want)
		}
		// Also of one that is wrapped, and once more.
		if err != nil && answerOf(failure{"this", failure{"that", err}}) != want {
			t.Fatalf("%v is not found where it is wrapped", err)
		}
	}
	for _, errno := range []api.Errno{api.ErrDead, api.ErrPoolNone, api.ErrPoolFull, api.ErrDiskSector, api.ErrJournalPlace, api.ErrBitmapFree, api.ErrBitmapPlace, api.ErrBitmapForm, api.ErrIndexPlace, api.ErrIndexForm} {
		isWrapped(t, while("this", errno), "this", errno, errno)
		if e := answerOf(failure{"all", while("this", errno)}); e != errno {
			t.Fatalf("%d is told as %d where it is wrapped twice", errno, e)
		}
	}
	if err := while("this", api.OK); err != nil {
		t.Fatalf("what went well is %v", err)
	}
}
