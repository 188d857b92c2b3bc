package proof_test

import (
	"crypto/hmac"
	"crypto/sha256"
	"math"
	"math/rand"
	"slices"
	"strings"
	"testing"

	"strongbox/api"
	"strongbox/proof"
)

// What follows is a plain model of the chapter's words, by the library's own digests and by lists.

// wantPlaces are the places of a draw and a digest.
func wantPlaces(draw, digest string) []int {
	var derived, last []byte
	for i := 1; i <= 255; i++ {
		mac := hmac.New(sha256.New, []byte(draw))
		mac.Write(last)
		mac.Write([]byte("places" + digest))
		mac.Write([]byte{byte(i)})
		last = mac.Sum(nil)
		derived = append(derived, last...)
		if l := firstEight(derived); len(l) == 8 {
			slices.Sort(l)
			return l
		}
	}
	panic("no draw and digest of a test has fewer")
}

// firstEight are the bytes of a text without those that came already, at most 8.
func firstEight(s []byte) []int {
	var l []int
	for _, b := range s {
		if len(l) < 8 && !slices.Contains(l, int(b)) {
			l = append(l, int(b))
		}
	}
	return l
}

// wantSample is the bytes of a chunk at places.
func wantSample(cipher string, places []int) (string, api.Errno) {
	var sample []byte
	for _, n := range places {
		if n < 0 || n > 255 {
			return "", 132
		}
		if len(cipher) == 256 {
			sample = append(sample, cipher[n])
		}
	}
	if len(cipher) != 256 {
		return "", 132
	}
	return string(sample), 0
}

type pendingOne struct {
	nonce  int
	offer  api.Offer
	places []int
}

// model is a Book as two maps by tenants.
type model struct {
	pending map[int][]pendingOne
	made    map[int]int
}

func newModel() *model {
	return &model{pending: map[int][]pendingOne{}, made: map[int]int{}}
}

func (m *model) offer(tenant int, o api.Offer, draw string) (int, []int, api.Errno) {
	switch {
	case tenant < 1 || tenant > 8:
		return 0, nil, 133
	case len(draw) != 16:
		return 0, nil, 131
	case len(o.Digest) != 32:
		return 0, nil, 1
	}
	m.made[tenant]++
	p := pendingOne{m.made[tenant], o, wantPlaces(draw, o.Digest)}
	l := append(m.pending[tenant], p)
	m.pending[tenant] = l[max(0, len(l)-4):]
	return p.nonce, p.places, 0
}

func (m *model) take(tenant, nonce int) (api.Offer, []int, api.Errno) {
	if tenant < 1 || tenant > 8 {
		return api.Offer{}, nil, 133
	}
	for k, p := range m.pending[tenant] {
		if p.nonce == nonce {
			m.pending[tenant] = slices.Delete(slices.Clone(m.pending[tenant]), k, k+1)
			return p.offer, p.places, 0
		}
	}
	return api.Offer{}, nil, 130
}

func (m *model) forget(tenant int) api.Errno {
	if tenant < 1 || tenant > 8 {
		return 133
	}
	m.pending[tenant] = nil
	return 0
}

func (m *model) nonces(tenant int) ([]int, api.Errno) {
	if tenant < 1 || tenant > 8 {
		return nil, 133
	}
	var l []int
	for _, p := range m.pending[tenant] {
		l = append(l, p.nonce)
	}
	return l, 0
}

// both is a Book and the model of it, asked the same.
type both struct {
	t *testing.T
	b *proof.Book
	m *model
}

func newBoth(t *testing.T) both {
	b := proof.New()
	if b == nil {
		t.Fatal("O3: there is no Book")
	}
	return both{t, b, newModel()}
}

// offer asks both, and tells the nonce and the error.
func (p both) offer(tenant int, o api.Offer, draw string) (int, api.Errno) {
	p.t.Helper()
	nonce, places, errno := p.b.Offer(tenant, o, draw)
	n, l, e := p.m.offer(tenant, o, draw)
	if nonce != n || !slices.Equal(places, l) || errno != e {
		p.t.Fatalf("Offer(%d, %+v, %q) = %d, %v, %d, want %d, %v, %d", tenant, o, draw, nonce, places, errno, n, l, e)
	}
	return nonce, errno
}

// take asks both, and tells the error.
func (p both) take(tenant, nonce int) api.Errno {
	p.t.Helper()
	o, places, errno := p.b.Take(tenant, nonce)
	x, l, e := p.m.take(tenant, nonce)
	if o != x || !slices.Equal(places, l) || errno != e {
		p.t.Fatalf("Take(%d, %d) = %+v, %v, %d, want %+v, %v, %d", tenant, nonce, o, places, errno, x, l, e)
	}
	return errno
}

// forget asks both, and tells the error.
func (p both) forget(tenant int) api.Errno {
	p.t.Helper()
	errno := p.b.Forget(tenant)
	if e := p.m.forget(tenant); errno != e {
		p.t.Fatalf("Forget(%d) = %d, want %d", tenant, errno, e)
	}
	return errno
}

// nonces asks both, and tells the error.
func (p both) nonces(tenant int) api.Errno {
	p.t.Helper()
	l, errno := p.b.Pending(tenant)
	want, e := p.m.nonces(tenant)
	if !slices.Equal(l, want) || errno != e {
		p.t.Fatalf("Pending(%d) = %v, %d, want %v, %d", tenant, l, errno, want, e)
	}
	return errno
}

// allNonces asks both about every tenant.
func (p both) allNonces() {
	p.t.Helper()
	for tenant := 1; tenant <= 8; tenant++ {
		p.nonces(tenant)
	}
}

// Helpers of all tests.

// drawOf is a draw of 16 bytes that hangs on a number.
func drawOf(k int) string {
	s := sha256.Sum256([]byte{'d', byte(k >> 16), byte(k >> 8), byte(k)})
	return string(s[:16])
}

// digestOf is a digest of 32 bytes that hangs on a number.
func digestOf(k int) string {
	s := sha256.Sum256([]byte{'g', byte(k >> 16), byte(k >> 8), byte(k)})
	return string(s[:])
}

// offerOf is an offer that hangs on a number.
func offerOf(k int) api.Offer {
	return api.Offer{Volume: k%99 + 1, Block: k % 60, Digest: digestOf(k), Wrapped: strings.Repeat(string(rune('a'+k%26)), 48)}
}

// count is a chunk of the bytes 0 to 255.
func count() string {
	b := make([]byte, 256)
	for k := range b {
		b[k] = byte(k)
	}
	return string(b)
}

// chunkBy is a chunk by chance.
func chunkBy(r *rand.Rand) string {
	b := make([]byte, 256)
	r.Read(b)
	return string(b)
}

// noTenants are numbers that no tenant has.
func noTenants() []int {
	return []int{math.MinInt, -4294967296, -256, -8, -1, 0, 9, 10, 255, 256, 257, 65537, 4294967297, math.MaxInt}
}

// pendingIs holds a Book to nonces.
func pendingIs(t *testing.T, b *proof.Book, tenant int, want ...int) {
	t.Helper()
	if l, errno := b.Pending(tenant); !slices.Equal(l, want) || errno != api.OK {
		t.Fatalf("Pending(%d) = %v, %d, want %v", tenant, l, errno, want)
	}
}
