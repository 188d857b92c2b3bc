package proof

import (
	"runtime"
	"slices"
	"strings"
	"testing"

	"strongbox/api"
)

// derived is how many of a text's bytes are asked for; behind its end stands one byte again and again.
func derived(t *testing.T, s string, filler string, asked *[]int) func(int) string {
	all := s + strings.Repeat(filler, api.MaxDerive)
	return func(n int) string {
		t.Helper()
		if n < 0 || n > 8160 {
			t.Fatalf("%d bytes are asked for", n)
		}
		*asked = append(*asked, n)
		return all[:n]
	}
}

// No draw is known whose first bytes are so much alike; the words say what then comes.
func TestO1FewDifferentBytes(t *testing.T) {
	last := strings.Repeat("\x09", 8159)
	for _, c := range []struct {
		what, s, filler string
		want            []int
	}{
		{"eight at once", "\x08\x07\x06\x05\x04\x03\x02\x01", "\x00", []int{1, 2, 3, 4, 5, 6, 7, 8}},
		{"the ninth is not wanted", "\x10\x20\x30\x40\x50\x60\x70\x80\x01", "\x00", []int{16, 32, 48, 64, 80, 96, 112, 128}},
		{"doubles are passed over", "\x10\x10\x20\x10\x30\x40\x40\x50\x60\x70\x70\x80\x01", "\x00", []int{16, 32, 48, 64, 80, 96, 112, 128}},
		{"the eighth is byte 32", strings.Repeat("\x10", 25) + "\x20\x30\x40\x50\x60\x70\x80", "\x00", []int{16, 32, 48, 64, 80, 96, 112, 128}},
		{"the eighth is byte 33", strings.Repeat("\x10", 26) + "\x20\x30\x40\x50\x60\x70\x80", "\x00", []int{16, 32, 48, 64, 80, 96, 112, 128}},
		{"the eighth is byte 100", strings.Repeat("\x10", 93) + "\x20\x30\x40\x50\x60\x70\x80", "\x00", []int{16, 32, 48, 64, 80, 96, 112, 128}},
		{"the eighth is the last byte", "\xff\xfe\xfd\xfc\xfb\xfa" + last[:8153] + "\x03", "\x00", []int{3, 9, 250, 251, 252, 253, 254, 255}},
		{"one behind the last does not count", "\xff\xfe\xfd\xfc\xfb\xfa" + last[:8154] + "\x03", "\x00", []int{0, 9, 250, 251, 252, 253, 254, 255}},
		{"seven", "\xff\x01\x02\x03\x04\x05\x06", "\xff", []int{0, 1, 2, 3, 4, 5, 6, 255}},
		{"seven, the least of them", "\x00\x01\x02\x03\x04\x05\x06", "\x00", []int{0, 1, 2, 3, 4, 5, 6, 7}},
		{"seven above", "\xff\xfe\xfd\xfc\xfb\xfa", "\xf9", []int{0, 249, 250, 251, 252, 253, 254, 255}},
		{"one of them in the midst of the least", "\x03", "\x03", []int{0, 1, 2, 3, 4, 5, 6, 7}},
		{"one, the nought", "", "\x00", []int{0, 1, 2, 3, 4, 5, 6, 7}},
		{"one, the greatest", "", "\xff", []int{0, 1, 2, 3, 4, 5, 6, 255}},
		{"three", "\x02\x00\x80", "\x80", []int{0, 1, 2, 3, 4, 5, 6, 128}},
	} {
		var asked []int
		if got := choose(derived(t, c.s, c.filler, &asked)); !slices.Equal(got[:], c.want) {
			t.Errorf("%s: %v, want %v (asked for %v bytes)", c.what, got, c.want, asked)
		}
	}
}

// All bytes take long, so they are derived only where few are not enough.
func TestO1AllBytesAreDerivedOnlyIfNeeded(t *testing.T) {
	var asked []int
	choose(derived(t, strings.Repeat("\x10", 25)+"\x20\x30\x40\x50\x60\x70\x80", "\x00", &asked))
	if slices.Max(asked) != 32 {
		t.Errorf("asked for %v bytes", asked)
	}
	asked = nil
	choose(derived(t, "", "\x00", &asked))
	if slices.Max(asked) != 8160 {
		t.Errorf("asked for %v bytes", asked)
	}
}

// So many challenges cannot be made in a test: the desk says that they were.
func TestO4NoncesBeginAnewBehindTheLast(t *testing.T) {
	o := api.Offer{Digest: strings.Repeat("g", 32)}
	draw := strings.Repeat("d", 16)
	b := New()
	b.desks[4].nonce = 4294967292
	for _, want := range []int{4294967293, 4294967294, 4294967295, 1, 2} {
		if nonce, l, errno := b.Offer(5, o, draw); nonce != want || len(l) != 8 || errno != api.OK {
			t.Errorf("Offer = %d, %v, %d, want %d", nonce, l, errno, want)
		}
	}
	if l, errno := b.Pending(5); !slices.Equal(l, []int{4294967294, 4294967295, 1, 2}) || errno != api.OK {
		t.Errorf("Pending = %v, %d", l, errno)
	}
	for _, nonce := range []int{0, 4294967293, 4294967296, 3, -1} {
		if _, _, errno := b.Take(5, nonce); errno != api.ErrProofNone {
			t.Errorf("Take(5, %d) = %d", nonce, errno)
		}
	}
	for _, nonce := range []int{1, 4294967295} {
		if got, l, errno := b.Take(5, nonce); got != o || len(l) != 8 || errno != api.OK {
			t.Errorf("Take(5, %d) = %+v, %v, %d", nonce, got, l, errno)
		}
	}
	if l, _ := b.Pending(5); !slices.Equal(l, []int{4294967294, 2}) {
		t.Errorf("Pending = %v", l)
	}
	if nonce, _, _ := b.Offer(4, o, draw); nonce != 1 {
		t.Errorf("another tenant's first nonce is %d", nonce)
	}
}

// Behind Take and Forget of the last nonce they begin anew, too.
func TestO4NoncesBeginAnewBehindTakeAndForget(t *testing.T) {
	o := api.Offer{Digest: strings.Repeat("g", 32)}
	draw := strings.Repeat("d", 16)
	for _, isTaken := range []bool{true, false} {
		b := New()
		b.desks[0].nonce = 4294967294
		b.Offer(1, o, draw)
		errno := api.OK
		if isTaken {
			_, _, errno = b.Take(1, 4294967295)
		} else {
			errno = b.Forget(1)
		}
		if nonce, _, _ := b.Offer(1, o, draw); nonce != 1 || errno != api.OK {
			t.Errorf("the nonce behind the last is %d (taken: %v, %d)", nonce, isTaken, errno)
		}
	}
}

func TestWaysAChannelWithRoomForFourOfEachTenant(t *testing.T) {
	b := New()
	o := api.Offer{Digest: strings.Repeat("g", 32)}
	for tenant := 1; tenant <= api.MaxTenants; tenant++ {
		for made := range 7 {
			c := b.desks[tenant-1].pending
			if cap(c) != 4 || len(c) != min(made, 4) {
				t.Errorf("tenant %d has a channel with room for %d and %d in it, behind %d Offers", tenant, cap(c), len(c), made)
			}
			b.Offer(tenant, o, strings.Repeat("d", 16))
		}
	}
	for k, d := range b.desks {
		for _, other := range b.desks[:k] {
			if d.pending == other.pending {
				t.Error("two tenants have one channel")
			}
		}
	}
}

func TestR2NoGoroutineIsLeft(t *testing.T) {
	was := runtime.NumGoroutine()
	for range 100 {
		b := New()
		for k := range 6 {
			b.Offer(1, api.Offer{Digest: strings.Repeat("g", 32)}, strings.Repeat("d", 16))
			b.Take(1, k)
			b.Pending(1)
		}
		b.Forget(1)
	}
	if is := runtime.NumGoroutine(); is > was {
		t.Errorf("there are %d goroutines, and were %d", is, was)
	}
}
