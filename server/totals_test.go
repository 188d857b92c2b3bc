package server_test

import (
	"testing"

	"strongbox/api"
)

func (b *box) totalsAre(chunks, pages, mapped, charged, promised int) {
	b.Helper()
	if got, want := b.totals(), (api.Totals{Chunks: chunks, Pages: pages, Mapped: mapped, Charged: charged, Promised: promised, Capacity: b.m.capacity}); got != want {
		b.Errorf("Totals = %+v, want %+v", got, want)
	}
}

func TestV7TotalsBehindEachKindOfRequest(t *testing.T) {
	b := begun(t, 128)
	b.totalsAre(0, 0, 0, 0, 0)
	b.asks(0, add(1, 50), api.Done)
	b.totalsAre(0, 0, 0, 0, 50)
	b.asks(0, add(8, 30), api.Done)
	b.asks(0, add(2, 4), api.NoRoom)
	b.asks(0, look(1), api.Done)
	b.totalsAre(0, 0, 0, 0, 80)
	b.asks(1, vol(1), api.Done)
	b.asks(1, vol(2), api.Done)
	b.asks(8, vol(1), api.Done)
	b.asks(1, vols(), api.Done)
	b.asks(1, stat(), api.Done)
	b.totalsAre(0, 3, 0, 3, 80)
	b.asks(1, upload(1, 0, 1, 1), api.Done)
	b.totalsAre(1, 4, 1, 5, 80)
	b.asks(1, upload(1, 1, 1, 2), api.Done)
	b.totalsAre(1, 4, 2, 6, 80)
	b.asks(1, upload(2, 5, 2, 3), api.Done)
	b.totalsAre(2, 5, 3, 8, 80)
	nonce, sample := b.offers(8, 1, 0, 2, 4)
	b.totalsAre(2, 5, 3, 8, 80)
	b.asks(8, prove(nonce, sample), api.Done)
	b.totalsAre(2, 6, 4, 10, 80)
	b.asks(8, prove(nonce, sample), api.Unmapped)
	b.asks(8, read(1, 0), api.Done)
	b.totalsAre(2, 6, 4, 10, 80)
	b.asks(1, trim(2, 5), api.Done)
	b.totalsAre(2, 5, 3, 8, 80)
	b.asks(1, unvol(2), api.Done)
	b.totalsAre(2, 4, 3, 7, 80)
	b.asks(8, upload(1, 0, 1, 5), api.Done)
	b.totalsAre(1, 4, 3, 7, 80)
	b.asks(8, trim(1, 0), api.Done)
	b.asks(8, unvol(1), api.Done)
	b.asks(0, remove(8), api.Done)
	b.totalsAre(1, 2, 2, 4, 50)
	b.open()
	b.totalsAre(1, 2, 2, 4, 50)
}

func TestV7TheCapacityIsTheLayouts(t *testing.T) {
	for sectors, want := range map[int]int{128: 83, 129: 84, 329: 255, 1024: 849} {
		if x := begun(t, sectors).totals(); x != (api.Totals{Capacity: want}) {
			t.Errorf("of %d sectors: %+v", sectors, x)
		}
	}
}

func TestV7TotalsOfADeadDisk(t *testing.T) {
	b := furnished(t, 128)
	kill(t, b.d)
	for range 2 {
		if x, e := b.s.Totals(); x != (api.Totals{}) || e != api.ErrDead {
			t.Errorf("Totals = %+v, %d", x, e)
		}
	}
	answers(t, "Crash", b.d.Crash(nil), api.OK)
	if x, e := b.s.Totals(); x != (api.Totals{}) || e != api.ErrDead {
		t.Errorf("Totals = %+v, %d", x, e)
	}
	b.open()
	b.stands()
}
