package client_test

import (
	"fmt"
	"math/rand"
	"testing"

	"strongbox/api"
)

// anyReply is a reply by chance: mostly one to what the model waits on, or nearly one.
func (b *both) anyReply(r *rand.Rand) string {
	kind := b.m.kind
	if kind == 0 || r.Intn(8) == 0 {
		kind = r.Intn(13)
	}
	s := bare(kind, api.Status(r.Intn(16)))
	switch {
	case kind == 8 && r.Intn(3) > 0:
		s = challenge(int(r.Uint32()), plainOf(r.Int())[:8])
	case kind == 9 && r.Intn(2) > 0:
		s = bare(9, []api.Status{api.Done, api.Need, api.Unmapped}[r.Intn(3)])
	case kind == 11 && r.Intn(3) > 0:
		s = b.anyFound(r)
	}
	switch r.Intn(10) {
	case 0:
		return turned(s, r.Intn(len(s)), byte(1+r.Intn(255)))
	case 1:
		return s[:r.Intn(len(s))]
	case 2:
		return s + "\x00"
	}
	return s
}

// anyFound is a reply to a Read: mostly with what belongs there.
func (b *both) anyFound(r *rand.Rand) string {
	domain, master, volume, block := b.m.domain, b.m.master, b.m.volume, b.m.block
	switch r.Intn(12) {
	case 0:
		domain = keyOf("another")
	case 1:
		master = keyOf("another")
	case 2:
		volume++
	case 3:
		block++
	}
	chunk, key := sealed(domain, plainOf(r.Intn(9)))
	switch r.Intn(12) {
	case 0:
		chunk = turned(chunk, r.Intn(256), 1)
	case 1:
		key = turned(key, r.Intn(32), 1)
	}
	return found(wrap(master, volume, block, key), chunk)
}

// moves does one thing by chance, and tells what came of it.
func (b *both) moves(r *rand.Rand) string {
	b.Helper()
	waits := b.m.kind
	switch n := r.Intn(20); {
	case n < 6:
		kind := []int{8, 8, 11, 12}[r.Intn(4)]
		plain := plainOf(r.Intn(9))[:256-r.Intn(12)/11]
		_, e := b.begins(kind, r.Intn(102), r.Intn(63)-1, plain)
		return fmt.Sprint(waits, " begins ", kind, e)
	case n == 6:
		b.cancels()
		return fmt.Sprint(waits, " cancels")
	case n == 7:
		b.sealsAll(b.someBlocks(r))
		return fmt.Sprint(waits, " seals")
	}
	s, e := b.takes(b.anyReply(r))
	return fmt.Sprint(waits, " takes ", s.Status, s.Over, e)
}

// Many calls by chance, each held against the model.
func Test15_1To15_5ByChance(t *testing.T) {
	came := map[string]int{}
	for seed := range 60 {
		r := rand.New(rand.NewSource(int64(500 + seed)))
		b := begun(t, "domain", fmt.Sprint(seed%3))
		for range 300 {
			came[b.moves(r)]++
		}
		b.ends()
	}
	for _, want := range []string{"0 takes 0 false 151", "8 takes 0 false 152", "8 takes 1 false 0", "8 takes 9 true 0", "9 takes 2 false 0", "9 takes 13 false 0", "9 takes 0 true 0", "10 takes 0 true 0", "10 takes 12 true 0", "11 takes 0 true 0", "11 takes 0 false 153", "11 takes 13 true 0", "12 takes 0 true 0", "12 takes 0 false 152", "0 begins 8 0", "0 begins 8 1", "0 begins 8 23", "8 begins 8 150", "9 begins 12 150", "10 begins 11 150", "9 cancels", "10 seals"} {
		if came[want] < 5 {
			t.Errorf("%q came %d times", want, came[want])
		}
	}
}
