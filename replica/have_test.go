package replica_test

import (
	"slices"
	"testing"

	"strongbox/api"
	"strongbox/disk"
	"strongbox/replica"
)

func TestX6NothingToTell(t *testing.T) {
	r := replica.NewReplica()
	tells := func() {
		t.Helper()
		if n, errno := r.Number(); n != 0 || errno != api.ErrReplicaNone {
			t.Errorf("Number = %d, %d", n, errno)
		}
		if l, errno := r.Image(); len(l) != 0 || errno != api.ErrReplicaNone {
			t.Errorf("Image = %d sectors, %d", len(l), errno)
		}
		if d, errno := r.Promote(); d != nil || errno != api.ErrReplicaNone {
			t.Errorf("Promote = %v, %d", d, errno)
		}
	}
	tells()
	// What was refused is nothing either.
	r.Take("")
	r.Take(wantChange(1, image(128), 2, image(128, 1, 1)))
	r.Take(wholeOf(1, image(128, 1, 1)).text())
	tells()
}

func TestX6WhatItHas(t *testing.T) {
	for _, size := range []int{128, 129, 1024} {
		for _, number := range []int{1, 2, 256, 65535} {
			for _, now := range [][]string{image(size), crowded(size, number)} {
				r := replica.NewReplica()
				if word, errno := r.Take(wantWhole(number, now)); word != wantWord(number, now) || errno != api.OK {
					t.Fatalf("Take = %x, %d", word, errno)
				}
				if n, errno := r.Number(); n != number || errno != api.OK {
					t.Errorf("Number = %d, %d", n, errno)
				}
				if l, errno := r.Image(); !slices.Equal(l, now) || errno != api.OK {
					t.Errorf("Image = %d sectors, %d", len(l), errno)
				}
			}
		}
	}
}

// promoted is the disk that a replica makes.
func promoted(t *testing.T, r triedReplica) *disk.Disk {
	t.Helper()
	d, errno := r.is.Promote()
	if d == nil || errno != api.OK {
		t.Fatalf("Promote = %v, %d", d, errno)
	}
	return d
}

func TestX6APromotedDisk(t *testing.T) {
	for _, size := range []int{128, 300, 1024} {
		now := crowded(size, 4)
		d := promoted(t, having(t, 3, now))
		if d.Size() != size || d.Pending() != 0 || d.Dead() || len(d.Trace()) != 0 {
			t.Errorf("of %d sectors: Size = %d, Pending = %d, Dead = %v, %d acts", size, d.Size(), d.Pending(), d.Dead(), len(d.Trace()))
		}
		for i, want := range now {
			if s, errno := d.Read(i); s != want || errno != api.OK {
				t.Fatalf("Read(%d) = %.8x, %d", i, s, errno)
			}
		}
		if errno := d.Crash(nil); errno != api.OK || !slices.Equal(d.Image(), now) {
			t.Errorf("what is promoted does not last: %d", errno)
		}
	}
}

// Each disk is its own; the replica knows nothing of them, nor they of it.
func TestX6TheReplicaGoesOn(t *testing.T) {
	now, next := image(128, 1, 1), image(128, 2, 2)
	r := having(t, 1, now)
	one, other := promoted(t, r), promoted(t, r)
	for i := range 128 {
		if errno := one.Write(i, full(200)); errno != api.OK {
			t.Fatalf("Write = %d", errno)
		}
	}
	r.stands("Write")
	if errno := one.Flush(); errno != api.OK {
		t.Fatalf("Flush = %d", errno)
	}
	r.stands("Flush")
	r.takes(wantChange(1, now, 2, next))
	one.Arm(1)
	one.Flush()
	r.answers(wantChange(1, now, 2, next), api.ErrReplicaOld)
	if !slices.Equal(other.Image(), now) || one.Image()[0] != full(200) || !slices.Equal(promoted(t, r).Image(), next) {
		t.Error("the disks have something in common")
	}
	r.takes(wantWhole(9, image(1024, 1000, 1)))
	if other.Size() != 128 || promoted(t, r).Size() != 1024 {
		t.Error("the replica's next image is the disk's")
	}
}
