package server_test

import (
	"math"
	"testing"

	"strongbox/api"
)

func TestV5TheDocumentsExampleOfQuotas(t *testing.T) {
	b := begun(t, 128)
	b.asks(0, add(1, 83), api.Done)
	b.asks(0, add(2, 1), api.NoRoom)
	b.asks(0, add(2, 0), api.Done)
	b.tells()
}

func TestV5QuotasAtTheirEdges(t *testing.T) {
	for sectors, capacity := range map[int]int{128: 83, 329: 255, 1024: 849} {
		b := begun(t, sectors)
		for _, k := range []int{1, 8} {
			for _, quota := range []int{capacity + 1, capacity + 2, 65535} {
				b.asks(0, add(k, quota), api.NoRoom)
				b.asks(0, look(k), api.NoTenant)
			}
			b.asks(0, add(k, capacity), api.Done)
			b.asks(0, add(9-k, 1), api.NoRoom)
			b.asks(0, remove(k), api.Done)
			b.asks(0, add(k, 0), api.Done)
			b.asks(0, remove(k), api.Done)
		}
		// All together, and one more.
		for k := 1; k <= 8; k++ {
			b.asks(0, add(k, capacity/8), api.Done)
		}
		b.asks(0, remove(8), api.Done)
		rest := capacity - 7*(capacity/8)
		b.asks(0, add(8, rest+1), api.NoRoom)
		b.asks(0, add(8, rest), api.Done)
		if b.totals().Promised != capacity {
			t.Errorf("promised are %d", b.totals().Promised)
		}
	}
}

// A tenant who is there is told ahead of a quota for which there is no room.
func TestV5ExistsIsToldAheadOfNoRoom(t *testing.T) {
	b := begun(t, 128)
	b.asks(0, add(3, 83), api.Done)
	for _, quota := range []int{0, 1, 83, 84, 65535} {
		b.asks(0, add(3, quota), api.Exists)
		b.asks(0, add(4, max(quota, 1)), api.NoRoom)
	}
	b.asks(0, look(3), api.Done)
}

func TestV5TenantsThatNoRequestCanName(t *testing.T) {
	b := begun(t, 128)
	want := replyOf(t, 0, bare(api.BadFrame))
	for _, k := range []byte{0, 9, 255} {
		for _, body := range []string{"\x01" + string([]byte{k}) + "\x00\x01", "\x02" + string([]byte{k}), "\x03" + string([]byte{k})} {
			b.handles(0, checked(body), drawOf(1), want, api.OK)
		}
	}
	b.tells()
}

func TestV5RemoveTenant(t *testing.T) {
	b := begun(t, 128)
	b.asks(0, remove(1), api.NoTenant)
	b.asks(0, remove(8), api.NoTenant)
	b.asks(0, add(8, 83), api.Done)
	b.asks(8, vol(1), api.Done)
	b.asks(0, remove(8), api.NotEmpty)
	b.asks(0, remove(1), api.NoTenant)
	b.asks(8, unvol(1), api.Done)
	b.asks(0, remove(8), api.Done)
	b.asks(0, remove(8), api.NoTenant)
	b.asks(8, stat(), api.NoTenant)
	// What was promised to it can be promised again, and nothing of it is left.
	b.asks(0, add(8, 83), api.Done)
	b.tells()
}

// A tenant has at least a root's charge as long as it has a volume; one without quota has none.
func TestV5ATenantWithoutQuota(t *testing.T) {
	b := begun(t, 128)
	b.asks(0, add(1, 0), api.Done)
	b.asks(1, vol(1), api.OverQuota)
	b.asks(1, unvol(1), api.NoVolume)
	b.asks(1, upload(1, 0, 1, 1), api.NoVolume)
	b.asks(1, stat(), api.Done)
	b.asks(1, vols(), api.Done)
	b.asks(0, remove(1), api.Done)
}

func TestV5WhatIsToldOfATenant(t *testing.T) {
	b := furnished(t, 128)
	for _, c := range []struct {
		k, quota, charge int
		volumes          []int
	}{{1, 40, 7, []int{5, 7}}, {2, 20, 6, []int{5}}, {3, 0, 0, nil}, {4, 3, 3, []int{99}}, {8, 5, 0, nil}} {
		want := api.Reply{Quota: c.quota, Charge: c.charge, Volumes: c.volumes}
		b.handles(0, frameOf(t, look(c.k)), drawOf(1), replyOf(t, api.AskTenant, want), api.OK)
		b.handles(c.k, frameOf(t, vols()), drawOf(1), replyOf(t, api.AskVolumes, api.Reply{Volumes: c.volumes}), api.OK)
		b.handles(c.k, frameOf(t, stat()), drawOf(1), replyOf(t, api.AskStat, api.Reply{Quota: c.quota, Charge: c.charge}), api.OK)
	}
	for _, k := range []int{5, 6, 7} {
		b.asks(0, look(k), api.NoTenant)
		b.asks(k, vols(), api.NoTenant)
		b.asks(k, stat(), api.NoTenant)
	}
}

func TestV5PendingChallengesAreForgottenWithTheirTenant(t *testing.T) {
	b := begun(t, 128)
	b.asks(0, add(1, 20), api.Done)
	b.asks(0, add(2, 20), api.Done)
	b.asks(2, vol(1), api.Done)
	b.asks(2, upload(1, 0, 1, 1), api.Done)
	var places []int
	for _, k := range []int{1, 2} {
		b.does(k, vol(2))
		for range 3 {
			places = b.does(k, offer(2, 0, 1, 1)).Places
		}
	}
	// Who is not removed keeps them.
	b.asks(0, remove(1), api.NotEmpty)
	b.asks(1, prove(2, sampleOf(text(2), places)), api.Need)
	b.asks(1, unvol(2), api.Done)
	b.asks(0, remove(1), api.Done)
	b.asks(1, prove(3, sampleOf(text(1), places)), api.NoTenant)
	b.asks(0, add(1, 20), api.Done)
	b.asks(1, vol(2), api.Done)
	for nonce := range 5 {
		b.asks(1, prove(nonce, sampleOf(text(1), places)), api.Unmapped)
	}
	// The nonces go on, and another tenant's challenges are there still.
	if r := b.does(1, offer(2, 0, 1, 1)); r.Nonce != 4 {
		t.Errorf("the nonce is %d", r.Nonce)
	}
	b.asks(2, prove(3, sampleOf(text(1), places)), api.Done)
}

func TestV5VolumesAtTheirEdges(t *testing.T) {
	b := begun(t, 128)
	b.asks(0, add(1, 83), api.Done)
	b.asks(0, add(2, 0), api.Done)
	for _, n := range []int{1, 99} {
		b.asks(1, unvol(n), api.NoVolume)
		b.asks(1, vol(n), api.Done)
		b.asks(1, vol(n), api.Exists)
		b.asks(2, unvol(n), api.NoVolume)
	}
	b.asks(1, unvol(2), api.NoVolume)
	b.tells()
	want := replyOf(t, 0, bare(api.BadFrame))
	for _, n := range []byte{0, 100, 255} {
		for _, kind := range []byte{4, 5} {
			b.handles(1, checked(string([]byte{kind, n})), drawOf(1), want, api.OK)
		}
	}
	for _, n := range []int{1, 99} {
		b.asks(1, unvol(n), api.Done)
		b.asks(1, unvol(n), api.NoVolume)
	}
}

// Exists is told ahead of TooMany, and that ahead of OverQuota.
func TestV5WhatIsToldFirstOfAVolume(t *testing.T) {
	b := begun(t, 128)
	b.asks(0, add(1, 8), api.Done)
	b.asks(0, add(2, 1), api.Done)
	b.asks(0, add(3, 9), api.Done)
	b.asks(2, vol(1), api.Done)
	b.asks(2, vol(1), api.Exists)
	b.asks(2, vol(2), api.OverQuota)
	for n := 11; n <= 18; n++ {
		b.asks(1, vol(n), api.Done)
		b.asks(3, vol(n), api.Done)
	}
	for _, k := range []int{1, 3} {
		b.asks(k, vol(11), api.Exists)
		b.asks(k, vol(18), api.Exists)
		b.asks(k, vol(10), api.TooMany)
		b.asks(k, vol(99), api.TooMany)
	}
	b.asks(1, unvol(14), api.Done)
	b.asks(1, vol(3), api.Done)
	b.asks(1, vol(14), api.TooMany)
	b.asks(1, vols(), api.Done)
	b.asks(3, unvol(14), api.Done)
	b.asks(3, upload(11, 0, 1, 1), api.Done)
	b.asks(3, vol(14), api.OverQuota)
}

func TestV5AVolumeWithBlocksStays(t *testing.T) {
	b := furnished(t, 128)
	b.asks(1, unvol(5), api.NotEmpty)
	for _, i := range []int{0, 1, 3} {
		b.asks(1, unvol(5), api.NotEmpty)
		b.asks(1, trim(5, i), api.Done)
	}
	b.asks(1, unvol(5), api.Done)
	b.asks(1, read(5, 0), api.NoVolume)
	b.asks(1, unvol(5), api.NoVolume)
	// Another tenant's of the same number is there still.
	b.asks(2, read(5, 0), api.Done)
	b.tells()
}

// The least free place becomes the root: the disk is held against that by each request.
func TestV5ARootTakesTheLeastFreePlace(t *testing.T) {
	b := begun(t, 128)
	b.asks(0, add(1, 83), api.Done)
	for n := 1; n <= 8; n++ {
		b.asks(1, vol(n), api.Done)
	}
	for _, n := range []int{6, 2, 4} {
		b.asks(1, unvol(n), api.Done)
	}
	b.asks(1, vol(50), api.Done)
	b.asks(1, upload(50, 0, 1, 1), api.Done)
	b.asks(1, vol(51), api.Done)
	if g := b.m.ground; g.roots[[2]int{1, 50}] != 1 || g.chunks[text(1)] != 3 || g.leaves[[3]int{1, 50, 0}] != 5 || g.roots[[2]int{1, 51}] != 8 {
		t.Errorf("the places are %v, %v, %v", g.roots, g.chunks, g.leaves)
	}
}

func TestV5NoncesAtTheirEdges(t *testing.T) {
	b := furnished(t, 128)
	b.does(1, offer(5, 2, 1, 1))
	for _, nonce := range []int{0, 2, math.MaxUint32, math.MaxUint32 - 1, 257, 65537} {
		b.asks(1, prove(nonce, "12345678"), api.Unmapped)
	}
	b.asks(1, prove(1, "12345678"), api.Need)
}
