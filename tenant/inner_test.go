package tenant

import (
	"math"
	"testing"

	"strongbox/api"
)

// someone is a record with volumes of these numbers, each with a root that is ten times as much.
func someone(quota, charge int, numbers ...int) record {
	r := record{isThere: true, quota: quota, charge: charge, count: len(numbers)}
	for k, n := range numbers {
		r.volumes[k] = api.Volume{Number: n, Root: 10 * n}
	}
	return r
}

func TestWaysEachCallThatChangesSomethingHasItsChange(t *testing.T) {
	c := changes()
	for name, x := range map[string]change{"Add": c.add, "Remove": c.remove, "AddVolume": c.addVolume, "RemoveVolume": c.removeVolume, "Charge": c.charge} {
		if x.wrong == nil || x.done == nil {
			t.Errorf("%s has no change", name)
		}
	}
}

func TestWaysWhatMayBeWrong(t *testing.T) {
	c := changes()
	for _, w := range []struct {
		what  string
		wrong func(record, int, ask) api.Errno
		r     record
		left  int
		a     ask
		want  api.Errno
	}{
		{"add", c.add.wrong, record{}, 0, ask{}, api.OK},
		{"add of all that is left", c.add.wrong, record{}, 7, ask{quota: 7}, api.OK},
		{"add of more", c.add.wrong, record{}, 7, ask{quota: 8}, api.ErrTenantRoom},
		{"add of nothing where less than that is left", c.add.wrong, record{}, -1, ask{}, api.ErrTenantRoom},
		{"add twice", c.add.wrong, someone(0, 0), 7, ask{quota: 8}, api.ErrTenantTwice},
		{"remove", c.remove.wrong, someone(5, 5), 0, ask{}, api.OK},
		{"remove nobody", c.remove.wrong, record{}, 0, ask{}, api.ErrTenantNone},
		{"remove one with volumes", c.remove.wrong, someone(5, 5, 0), 0, ask{}, api.ErrTenantUsed},
		{"add a volume", c.addVolume.wrong, someone(5, 5, 1, 2, 3, 4, 5, 6, 7), 0, ask{}, api.OK},
		{"add a volume twice", c.addVolume.wrong, someone(5, 5, 0), 0, ask{}, api.ErrVolumeTwice},
		{"add a volume too many", c.addVolume.wrong, someone(5, 5, 1, 2, 3, 4, 5, 6, 7, 8), 0, ask{}, api.ErrVolumeMany},
		{"add a volume of eight twice", c.addVolume.wrong, someone(5, 5, 0, 2, 3, 4, 5, 6, 7, 8), 0, ask{}, api.ErrVolumeTwice},
		// The volumes of one who is not there are noughts, as is the number that is asked for.
		{"add a volume to nobody", c.addVolume.wrong, record{}, 0, ask{}, api.ErrTenantNone},
		{"remove a volume", c.removeVolume.wrong, someone(5, 5, 0), 0, ask{}, api.OK},
		{"remove no volume", c.removeVolume.wrong, someone(5, 5), 0, ask{}, api.ErrVolumeNone},
		{"remove a volume of nobody", c.removeVolume.wrong, record{}, 0, ask{}, api.ErrTenantNone},
		{"charge nothing", c.charge.wrong, someone(0, 0), 0, ask{}, api.OK},
		{"charge all", c.charge.wrong, someone(9, 4), 0, ask{more: 5}, api.OK},
		{"charge more", c.charge.wrong, someone(9, 4), 0, ask{more: 6}, api.ErrTenantQuota},
		{"charge the most", c.charge.wrong, someone(65535, 65535), 0, ask{more: math.MaxInt}, api.ErrTenantQuota},
		{"charge less", c.charge.wrong, someone(9, 4), 0, ask{more: -4}, api.OK},
		{"charge less than nothing", c.charge.wrong, someone(9, 4), 0, ask{more: -5}, api.ErrTenantCharge},
		{"charge the least", c.charge.wrong, someone(65535, 0), 0, ask{more: math.MinInt}, api.ErrTenantCharge},
		{"charge nobody", c.charge.wrong, record{}, 0, ask{more: 1}, api.ErrTenantNone},
	} {
		if got := w.wrong(w.r, w.left, w.a); got != w.want {
			t.Errorf("to %s: %d, want %d", w.what, got, w.want)
		}
	}
}

func TestWaysWhatIsDone(t *testing.T) {
	c := changes()
	volume := func(n int) api.Volume { return api.Volume{Number: n, Root: 10 * n} }
	for _, w := range []struct {
		what string
		done func(record, ask) record
		r    record
		a    ask
		want record
	}{
		{"add", c.add.done, record{}, ask{quota: 7}, someone(7, 0)},
		{"remove", c.remove.done, someone(7, 3), ask{}, record{}},
		{"add a first volume", c.addVolume.done, someone(7, 3), ask{volume: volume(4)}, someone(7, 3, 4)},
		{"add a volume ahead", c.addVolume.done, someone(7, 3, 4, 6), ask{volume: volume(2)}, someone(7, 3, 2, 4, 6)},
		{"add a volume between", c.addVolume.done, someone(7, 3, 4, 6), ask{volume: volume(5)}, someone(7, 3, 4, 5, 6)},
		{"add a volume behind", c.addVolume.done, someone(7, 3, 4, 6), ask{volume: volume(8)}, someone(7, 3, 4, 6, 8)},
		{"add an eighth volume", c.addVolume.done, someone(7, 3, 1, 2, 3, 4, 5, 6, 7), ask{volume: volume(0)}, someone(7, 3, 0, 1, 2, 3, 4, 5, 6, 7)},
		{"remove the last volume", c.removeVolume.done, someone(7, 3, 4), ask{volume: volume(4)}, someone(7, 3)},
		{"remove a volume", c.removeVolume.done, someone(7, 3, 2, 4, 6), ask{volume: volume(4)}, someone(7, 3, 2, 6)},
		{"remove one of eight", c.removeVolume.done, someone(7, 3, 1, 2, 3, 4, 5, 6, 7, 8), ask{volume: volume(1)}, someone(7, 3, 2, 3, 4, 5, 6, 7, 8)},
		{"remove the eighth", c.removeVolume.done, someone(7, 3, 1, 2, 3, 4, 5, 6, 7, 8), ask{volume: volume(8)}, someone(7, 3, 1, 2, 3, 4, 5, 6, 7)},
		{"charge more", c.charge.done, someone(7, 3, 4), ask{more: 4}, someone(7, 7, 4)},
		{"charge less", c.charge.done, someone(7, 3, 4), ask{more: -3}, someone(7, 0, 4)},
	} {
		was := w.r
		if got := w.done(w.r, w.a); got != w.want || w.r != was {
			t.Errorf("%s: %v, want %v", w.what, got, w.want)
		}
	}
}

func TestPagesThroughBoth(t *testing.T) {
	for _, r := range []record{{}, someone(0, 0), someone(65535, 65535), someone(9, 3, 0), someone(9, 3, 99), someone(9, 3, 1, 2, 3, 4, 5, 6, 7, 8)} {
		body := r.body()
		if got, isRight := parseRecord(body); got != r || !isRight || len(body) != 50 {
			t.Errorf("%v is read as %v, %v", r, got, isRight)
		}
		for tenant := 1; tenant <= 8; tenant++ {
			if got, isRight := recordOf(tenant, sectorOf(tenant, r)); got != r || !isRight {
				t.Errorf("the page of %d is read as %v, %v", tenant, got, isRight)
			}
			if got, isRight := recordOf(tenant+1, sectorOf(tenant, r)); got != (record{}) || isRight {
				t.Errorf("the page of %d is read as that of the next one: %v", tenant, got)
			}
		}
	}
}
