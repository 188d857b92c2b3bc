package seal_test

import (
	"crypto/hmac"
	"crypto/sha256"
	"strings"
	"testing"

	"strongbox/api"
	"strongbox/seal"
)

// wantMac is the library's own.
func wantMac(key, s string) string {
	m := hmac.New(sha256.New, []byte(key))
	m.Write([]byte(s))
	return string(m.Sum(nil))
}

// wantSealed is a block as a chunk, and its key.
func wantSealed(domain, plain string) (string, string) {
	key := wantMac(domain, plain)
	return wantXor(plain, wantStream(key)[:len(plain)]), key
}

func blocks() []string {
	return []string{text(256, 0), text(256, 200), strings.Repeat("\x00", 256), strings.Repeat("\xff", 256), strings.Repeat("a", 255) + "\x00"}
}

func domains() []string {
	return []string{aKey(1), aKey(2), strings.Repeat("\x00", 32), strings.Repeat("\xff", 32)}
}

// notBlocks have another length than a block, the nearest ones first.
func notBlocks() []string {
	return []string{text(255, 1), text(257, 1), "", "a", text(32, 1), text(512, 1), text(streamSize+1, 1)}
}

func TestS3BlockKey(t *testing.T) {
	for _, d := range domains() {
		for _, p := range blocks() {
			if got, e := seal.BlockKey(d, p); got != wantMac(d, p) || e != api.OK {
				t.Errorf("BlockKey(%.4q.., %.4q..) = %x, %d, want %x", d, p, got, e, wantMac(d, p))
			}
		}
	}
}

func TestS3BlockKeyRefuses(t *testing.T) {
	for _, d := range notKeys() {
		for _, p := range append(notBlocks(), text(256, 0)) {
			if got, e := seal.BlockKey(d, p); got != "" || e != api.ErrSealKey {
				t.Errorf("BlockKey(%d bytes, %d bytes) = %x, %d, want error %d", len(d), len(p), got, e, api.ErrSealKey)
			}
		}
	}
	for _, p := range notBlocks() {
		if got, e := seal.BlockKey(aKey(1), p); got != "" || e != api.ErrSealSize {
			t.Errorf("BlockKey(domain, %d bytes) = %x, %d, want error %d", len(p), got, e, api.ErrSealSize)
		}
	}
}

func TestS4Seal(t *testing.T) {
	for _, d := range domains() {
		for _, p := range blocks() {
			wantChunk, wantKey := wantSealed(d, p)
			chunk, key, e := seal.Seal(d, p)
			if chunk != wantChunk || key != wantKey || e != api.OK {
				t.Errorf("Seal(%.4q.., %.4q..) = %x, %x, %d", d, p, chunk, key, e)
			}
		}
	}
}

func TestS4SealRefuses(t *testing.T) {
	for _, d := range notKeys() {
		for _, p := range append(notBlocks(), text(256, 0)) {
			if chunk, key, e := seal.Seal(d, p); chunk != "" || key != "" || e != api.ErrSealKey {
				t.Errorf("Seal(%d bytes, %d bytes) = %x, %x, %d, want error %d", len(d), len(p), chunk, key, e, api.ErrSealKey)
			}
		}
	}
	for _, p := range notBlocks() {
		if chunk, key, e := seal.Seal(aKey(1), p); chunk != "" || key != "" || e != api.ErrSealSize {
			t.Errorf("Seal(domain, %d bytes) = %x, %x, %d, want error %d", len(p), chunk, key, e, api.ErrSealSize)
		}
	}
}

func TestS5Open(t *testing.T) {
	for _, d := range domains() {
		for _, p := range blocks() {
			chunk, key := wantSealed(d, p)
			if got, e := seal.Open(d, key, chunk); got != p || e != api.OK {
				t.Errorf("Open(%.4q.., %.4x.., chunk) = %x, %d, want %x", d, key, got, e, p)
			}
		}
	}
}

func TestS5OpenRefusesWhatIsNotSo(t *testing.T) {
	d, p := aKey(1), text(256, 0)
	chunk, key := wantSealed(d, p)
	otherChunk, otherKey := wantSealed(d, text(256, 1))
	cases := [][3]string{
		{aKey(2), key, chunk}, {d, otherKey, chunk}, {d, key, otherChunk}, {d, aKey(9), chunk}, {key, d, chunk},
		{d, key, p}, {d, key, strings.Repeat("\x00", 256)}, {d, strings.Repeat("\x00", 32), chunk},
	}
	for bit := range 8 * 256 {
		cases = append(cases, [3]string{d, key, turned(chunk, bit)})
	}
	for bit := range 8 * 32 {
		cases = append(cases, [3]string{d, turned(key, bit), chunk}, [3]string{turned(d, bit), key, chunk})
	}
	for _, c := range cases {
		if got, e := seal.Open(c[0], c[1], c[2]); got != "" || e != api.ErrSealTag {
			t.Errorf("Open(%x, %x, %.4x..) = %d bytes, error %d, want error %d", c[0], c[1], c[2], len(got), e, api.ErrSealTag)
		}
	}
}

// A key that lays the right block bare is wrong nevertheless, if it is not the block's own in this domain.
func TestS5OpenRefusesAKeyThatIsNotTheBlocksOwn(t *testing.T) {
	p, key := text(256, 0), aKey(9)
	chunk := wantXor(p, wantStream(key)[:256])
	if got, e := seal.Open(aKey(1), key, chunk); got != "" || e != api.ErrSealTag {
		t.Errorf("Open = %d bytes, error %d, want error %d", len(got), e, api.ErrSealTag)
	}
}

func TestS5OpenRefusesInOrder(t *testing.T) {
	d := aKey(1)
	chunk, key := wantSealed(d, text(256, 0))
	for _, no := range notKeys() {
		for _, c := range append(notBlocks(), chunk) {
			for _, x := range [][2]string{{no, key}, {d, no}, {no, no}} {
				if got, e := seal.Open(x[0], x[1], c); got != "" || e != api.ErrSealKey {
					t.Errorf("Open(%d, %d, %d bytes) = %d bytes, error %d, want error %d", len(x[0]), len(x[1]), len(c), len(got), e, api.ErrSealKey)
				}
			}
		}
	}
	for _, c := range append(notBlocks(), chunk[:255], chunk+"\x00") {
		for _, k := range []string{key, aKey(9)} {
			if got, e := seal.Open(d, k, c); got != "" || e != api.ErrSealSize {
				t.Errorf("Open(domain, key, %d bytes) = %d bytes, error %d, want error %d", len(c), len(got), e, api.ErrSealSize)
			}
		}
	}
}

func TestS8Digest(t *testing.T) {
	for _, c := range blocks() {
		want := sha256.Sum256([]byte(c))
		if got, e := seal.Digest(c); got != string(want[:]) || e != api.OK {
			t.Errorf("Digest(%.4q..) = %x, %d, want %x", c, got, e, want)
		}
	}
}

func TestS8DigestRefuses(t *testing.T) {
	for _, c := range notBlocks() {
		if got, e := seal.Digest(c); got != "" || e != api.ErrSealSize {
			t.Errorf("Digest of %d bytes = %x, %d, want error %d", len(c), got, e, api.ErrSealSize)
		}
	}
}

func TestS9OpenOfWhatSealGaveIsTheBlock(t *testing.T) {
	for seed := range byte(100) {
		d, p := aKey(seed), text(256, 3*seed)
		chunk, key, e := seal.Seal(d, p)
		if e != api.OK {
			t.Errorf("Seal of block %d: error %d", seed, e)
		}
		if got, e := seal.Open(d, key, chunk); got != p || e != api.OK {
			t.Errorf("Open of block %d sealed = %d bytes, error %d", seed, len(got), e)
		}
	}
}

// One copy of what is the same needs it: within a domain nothing but the block counts, and in another one all is different.
func TestS9OneBlockIsOneChunkWithinADomain(t *testing.T) {
	p := text(256, 0)
	a, aOwn, _ := seal.Seal(aKey(1), p)
	b, bOwn, _ := seal.Seal(aKey(1), strings.Clone(p))
	c, cOwn, _ := seal.Seal(aKey(2), p)
	if a != b || aOwn != bOwn {
		t.Error("one block has two chunks in one domain")
	}
	if a == c || aOwn == cOwn {
		t.Error("one block has one chunk in two domains")
	}
}
