package client_test

import (
	"fmt"
	"math/rand"
	"slices"
	"strings"
	"testing"

	"strongbox/api"
	"strongbox/client"
	"strongbox/seal"
	"strongbox/wire"
)

func Test15_1KeysHave32Bytes(t *testing.T) {
	sizes := []int{0, 1, 16, 31, 32, 33, 48, 64, 256}
	for _, domain := range sizes {
		for _, master := range sizes {
			c, e := client.New(strings.Repeat("d", domain), strings.Repeat("m", master))
			want := api.ErrSealKey
			if domain == 32 && master == 32 {
				want = api.OK
			}
			if e != want || (c != nil) != (e == api.OK) {
				t.Errorf("New of %d and %d bytes = %v, %d, want %d", domain, master, c, e, want)
			}
		}
	}
}

// Any 32 bytes are a key: noughts, equal ones, bytes that are no letters.
func Test15_1AnyBytesAreAKey(t *testing.T) {
	keys := []string{zeros(32), strings.Repeat("\xff", 32), strings.Repeat("k", 32), keyOf("a")}
	for _, domain := range keys {
		for _, master := range keys {
			c, e := client.New(domain, master)
			if c == nil || e != api.OK {
				t.Fatalf("New = %v, %d", c, e)
			}
			b := &both{T: t, c: c, m: model{domain: domain, master: master}}
			b.begins(8, 3, 4, plainOf(1))
			b.ends()
			b.begins(11, 3, 4, "")
			b.ends()
		}
	}
}

func Test15_1ANewClientWaitsForNothing(t *testing.T) {
	for kind := range 13 {
		for status := range api.Status(14) {
			begun(t, "d", "m").answers(bare(kind, status), api.Step{}, api.ErrClientIdle)
		}
	}
	b := begun(t, "d", "m")
	for _, s := range []string{"", "x", zeros(5), challenge(1, somePlaces), zeros(1 << 16)} {
		b.answers(s, api.Step{}, api.ErrClientIdle)
	}
	b.begins(8, 1, 0, plainOf(0))
}

// Two clients in turns: each does what it would do alone, of other keys, of the same ones, or of one and the same.
func Test15_1ClientsKnowNothingOfOneAnother(t *testing.T) {
	for seed, names := range [][4]string{{"d", "m", "d", "m"}, {"d", "m", "d", "n"}, {"d", "m", "e", "m"}, {"d", "m", "e", "n"}, {"k", "k", "k", "k"}} {
		r := rand.New(rand.NewSource(int64(seed)))
		two := []*both{begun(t, names[0], names[1]), begun(t, names[2], names[3])}
		for range 400 {
			two[r.Intn(2)].moves(r)
		}
	}
}

// A client goes on as it was, whatever another one is brought to.
func Test15_1WhatOneWaitsForIsNoneOfTheOthers(t *testing.T) {
	for _, one := range waits() {
		for _, other := range waits() {
			a, b := waiting(t, one, 1, 2, 3), waiting(t, other, 4, 5, 6)
			b.cancels()
			a.ends()
			b.ends()
			a, b = waiting(t, one, 1, 2, 3), waiting(t, other, 4, 5, 6)
			a.cancels()
			b.ends()
			a.ends()
		}
	}
}

func Test15_2Example(t *testing.T) {
	b := begun(t, "d", "m")
	f, e := b.begins(8, 1, 0, plainOf(0))
	if len(f) != 87 || e != api.OK {
		t.Errorf("Write = %d bytes, %d", len(f), e)
	}
	if f, e = b.begins(8, 1, 0, plainOf(0)); f != "" || e != api.ErrClientBusy {
		t.Errorf("Write again = %x, %d", f, e)
	}
	b.answers(bare(8, api.NoVolume), api.Step{Over: true, Status: api.NoVolume}, api.OK)
	if f, e = b.begins(11, 1, 60, ""); f != "" || e != api.ErrArg {
		t.Errorf("Read(1, 60) = %x, %d", f, e)
	}
}

// Each of the three, in each state, at all edges: the model has the errors in their order, and nothing is changed by one.
func Test15_2TheFirstErrorIsTold(t *testing.T) {
	came := map[string]int{}
	for _, state := range waits() {
		b := waiting(t, state, 7, 8, 9)
		for _, kind := range []int{8, 11, 12} {
			for _, volume := range edges() {
				for _, block := range edges() {
					for _, size := range []int{0, 255, 256, 257} {
						_, e := b.begins(kind, volume, block, strings.Repeat("p", size))
						came[fmt.Sprint(kind, e)]++
						if e == api.OK {
							b.cancels()
						}
					}
				}
			}
		}
		b.ends()
	}
	for _, want := range []string{"8 0", "8 150", "8 1", "8 23", "11 0", "11 150", "11 1", "12 0", "12 150", "12 1"} {
		if came[want] == 0 {
			t.Errorf("kind and error %s never came", want)
		}
	}
	if len(came) != 10 {
		t.Errorf("they came %v times", came)
	}
}

// What was refused leaves no trace: the client waits for nothing, or on what it was.
func Test15_2AnErrorChangesNothing(t *testing.T) {
	for _, state := range waits() {
		for _, kind := range []int{8, 11, 12} {
			for _, at := range [][2]int{{0, 0}, {100, 0}, {1, -1}, {1, 60}, {99, 59}} {
				if state == 0 && kind != 8 && at == [2]int{99, 59} {
					continue
				}
				b := waiting(t, state, 7, 8, 9)
				if f, e := b.begins(kind, at[0], at[1], plainOf(1)[1:]); f != "" || e == api.OK {
					t.Fatalf("kind %d at %v: %x, %d", kind, at, f, e)
				}
				b.ends()
			}
		}
	}
}

func Test15_2EachPlace(t *testing.T) {
	b := begun(t, "d", "m")
	frames := map[string]int{}
	for volume := 1; volume <= 99; volume++ {
		for block := range 60 {
			for _, kind := range []int{8, 11, 12} {
				f, e := b.begins(kind, volume, block, plainOf(0))
				if e != api.OK {
					t.Fatalf("kind %d at %d, %d: %d", kind, volume, block, e)
				}
				frames[f]++
				b.cancels()
			}
		}
	}
	if len(frames) != 3*99*60 {
		t.Errorf("%d different frames", len(frames))
	}
}

func Test15_2BlocksOfOtherLengths(t *testing.T) {
	b := begun(t, "d", "m")
	for _, size := range []int{0, 1, 32, 128, 254, 255, 257, 258, 512, 1 << 16} {
		if f, e := b.begins(8, 1, 0, strings.Repeat("p", size)); f != "" || e != api.ErrSealSize {
			t.Errorf("Write of %d bytes = %x, %d", size, f, e)
		}
	}
	for _, plain := range []string{zeros(256), strings.Repeat("\xff", 256), plainOf(3)} {
		if _, e := b.begins(8, 1, 0, plain); e != api.OK {
			t.Errorf("Write of %x = %d", plain, e)
		}
		b.ends()
	}
}

// The frame is what the layers below make of the block: its request, field by field.
func Test15_2TheOfferIsOfTheLayersBelow(t *testing.T) {
	domain, master := keyOf("d"), keyOf("m")
	for n, at := range [][2]int{{1, 0}, {5, 7}, {99, 59}} {
		c, _ := client.New(domain, master)
		chunk, key, _ := seal.Seal(domain, plainOf(n))
		digest, _ := seal.Digest(chunk)
		wrapped, _ := seal.Wrap(master, at[0], at[1], key)
		f, e := c.Write(at[0], at[1], plainOf(n))
		r, de := wire.DecodeRequest(f)
		if want := (api.Request{Kind: api.AskOffer, Volume: at[0], Block: at[1], Digest: digest, Wrapped: wrapped}); r != want || e != api.OK || de != api.OK {
			t.Errorf("Write at %v = %x, %d", at, f, e)
		}
	}
}

// Who has the same block in the same domain offers the same digest, with a wrapped key of their own; another domain, another digest.
func Test15_2TheSameBlockHasTheSameDigest(t *testing.T) {
	digest := func(domain, master string, volume, n int) (string, string) {
		f, _ := begun(t, domain, master).begins(8, volume, 5, plainOf(n))
		return f[3:35], f[35:83]
	}
	d, w := digest("d", "m", 1, 1)
	for _, other := range []struct {
		domain, master      string
		volume, n           int
		isSame, sameWrapped bool
	}{{"d", "m", 1, 1, true, true}, {"d", "n", 1, 1, true, false}, {"d", "m", 2, 1, true, false}, {"e", "m", 1, 1, false, false}, {"d", "m", 1, 2, false, false}} {
		x, y := digest(other.domain, other.master, other.volume, other.n)
		if (x == d) != other.isSame || (y == w) != other.sameWrapped {
			t.Errorf("%+v: the digest is the same: %v, the wrapped key: %v", other, x == d, y == w)
		}
	}
}

// A client that has ended one thing begins the next one as if there had been none.
func Test15_2OneThingBehindAnother(t *testing.T) {
	b := begun(t, "d", "m")
	for n, kinds := range [][]int{{8, 11}, {11, 12, 8}, {12, 12}, {11, 11}, {8, 8, 8}, {12, 8, 11}} {
		for _, kind := range slices.Concat(kinds, kinds) {
			b.begins(kind, n+1, n*7, plainOf(n))
			b.begins(8, n+2, n*7, plainOf(n+1))
			b.ends()
		}
	}
}
