package hash_test

import (
	"crypto/hkdf"
	"crypto/hmac"
	"crypto/sha256"
	"math"
	"strings"
	"testing"

	"strongbox/api"
	"strongbox/hash"
)

// text is n bytes of which no two pieces are alike.
func text(n int) string {
	b := make([]byte, n)
	for i := range b {
		b[i] = byte(i*i/7 + 31*i + i/64)
	}
	return string(b)
}

func wantSum(s string) string {
	d := sha256.Sum256([]byte(s))
	return string(d[:])
}

func wantMac(key, s string) string {
	m := hmac.New(sha256.New, []byte(key))
	m.Write([]byte(s))
	return string(m.Sum(nil))
}

func wantDerived(t *testing.T, key, info string, n int) string {
	t.Helper()
	d, err := hkdf.Expand(sha256.New, []byte(key), info, n)
	if err != nil {
		t.Fatal(err)
	}
	return string(d)
}

func mustUnhex(t *testing.T, s string) string {
	t.Helper()
	b, e := hash.Unhex(s)
	if e != api.OK {
		t.Fatalf("Unhex(%q): error %d", s, e)
	}
	return b
}

func TestH1SumOfTheExamples(t *testing.T) {
	for s, want := range map[string]string{
		"abc": "ba7816bf8f01cfea414140de5dae2223b00361a396177a9cb410ff61f20015ad",
		"":    "e3b0c44298fc1c149afbf4c8996fb92427ae41e4649b934ca495991b7852b855",
	} {
		if got := hash.Hex(hash.Sum(s)); got != want {
			t.Errorf("Sum(%q) = %s, want %s", s, got, want)
		}
	}
}

// The lengths go past 55 and 56, 63 and 64, and the same one, two and three pieces later: there the filling up just fits, or needs a piece more.
func TestH1SumOfEachLength(t *testing.T) {
	for n := range 4*64 + 2 {
		for _, s := range []string{text(n), strings.Repeat("\x00", n), strings.Repeat("\xff", n)} {
			if got := hash.Sum(s); got != wantSum(s) {
				t.Errorf("Sum of %d bytes (%.4q..) = %x, want %x", n, s, got, wantSum(s))
			}
		}
	}
}

// The length in bits needs a fourth byte here.
func TestH1SumOfALongText(t *testing.T) {
	s := text(1<<21 + 3)
	if got := hash.Sum(s); got != wantSum(s) {
		t.Errorf("Sum of %d bytes = %x, want %x", len(s), got, wantSum(s))
	}
}

func TestH1SumOfTextsThatAreNoRunes(t *testing.T) {
	for _, s := range []string{"\x80", "\xff\xfe", "é", "日本", "a\x00b"} {
		if got := hash.Sum(s); got != wantSum(s) {
			t.Errorf("Sum(%q) = %x, want %x", s, got, wantSum(s))
		}
	}
}

func TestH1MacOfTheExample(t *testing.T) {
	want := "5bdcc146bf60754e6a042426089575c75a003f089d2739839dec58b964ec3843"
	if got := hash.Hex(hash.Mac("Jefe", "what do ya want for nothing?")); got != want {
		t.Errorf("Mac = %s, want %s", got, want)
	}
}

func TestH1MacOfEachKeyLength(t *testing.T) {
	for k := range 2*64 + 4 {
		for _, n := range []int{0, 1, 55, 56, 64, 130} {
			if got, want := hash.Mac(text(k), text(n)), wantMac(text(k), text(n)); got != want {
				t.Errorf("Mac by %d bytes of %d bytes = %x, want %x", k, n, got, want)
			}
		}
	}
}

func TestH1MacTakesALongKeyByItsDigest(t *testing.T) {
	for k, byDigest := range map[int]bool{63: false, 64: false, 65: true, 1000: true} {
		key := text(k)
		if got := hash.Mac(key, "x") == hash.Mac(hash.Sum(key), "x"); got != byDigest {
			t.Errorf("a key of %d bytes is taken by its digest: %v, want %v", k, got, byDigest)
		}
	}
}

// Noughts fill a short key up, so a key with noughts behind it is the same key.
func TestH1MacFillsAKeyUpWithNoughts(t *testing.T) {
	if hash.Mac("", "x") != hash.Mac(strings.Repeat("\x00", 64), "x") {
		t.Error("the empty key is not the one of 64 noughts")
	}
	if hash.Mac("k", "x") != hash.Mac("k\x00", "x") || hash.Mac("k", "x") == hash.Mac("\x00k", "x") {
		t.Error("noughts do not stand behind the key")
	}
}

func TestH2DeriveOfTheExample(t *testing.T) {
	key := mustUnhex(t, "077709362c2e32df0ddc3f0dc47bba6390b6c73bb50f9c3122ec844ad7c2b3e5")
	info := mustUnhex(t, "f0f1f2f3f4f5f6f7f8f9")
	want := "3cb25f25faacd57a90434f64d0362f2a2d2d0a90cf1a5a4c5db02d56ecc4c5bf34007208d5b887185865"
	if got, e := hash.Derive(key, info, 42); hash.Hex(got) != want || e != api.OK {
		t.Errorf("Derive = %x, %d, want %s", got, e, want)
	}
}

func TestH2DeriveOfEachLength(t *testing.T) {
	all := wantDerived(t, "key", "info", api.MaxDerive)
	lengths := []int{api.MaxDerive, api.MaxDerive - 1, api.MaxDerive - 31, api.MaxDerive - 32, api.MaxDerive - 33}
	for n := range 130 {
		lengths = append(lengths, n)
	}
	for _, n := range lengths {
		if got, e := hash.Derive("key", "info", n); got != all[:n] || e != api.OK {
			t.Errorf("Derive of %d bytes = %d bytes, error %d; they are the wrong ones", n, len(got), e)
		}
	}
}

func TestH2DeriveByKeysAndInfosOfAllKinds(t *testing.T) {
	for _, key := range []string{"", "k", text(32), text(64), text(65), text(200)} {
		for _, info := range []string{"", "\x00", "info", text(300)} {
			want := wantDerived(t, key, info, 100)
			if got, e := hash.Derive(key, info, 100); got != want || e != api.OK {
				t.Errorf("Derive by %d bytes and an info of %d = %x, %d, want %x", len(key), len(info), got, e, want)
			}
		}
	}
}

func TestH2DeriveRefuses(t *testing.T) {
	for n, want := range map[int]api.Errno{
		-1: api.ErrArg, -api.MaxDerive: api.ErrArg, math.MinInt: api.ErrArg,
		api.MaxDerive + 1: api.ErrHashLong, math.MaxInt: api.ErrHashLong,
	} {
		if got, e := hash.Derive("key", "info", n); got != "" || e != want {
			t.Errorf("Derive of %d bytes = %d bytes, error %d, want none, error %d", n, len(got), e, want)
		}
	}
}

func TestH3SameTexts(t *testing.T) {
	for _, n := range []int{0, 1, 2, 32, 255, 1000} {
		if a, b := text(n), strings.Clone(text(n)); !hash.Same(a, b) {
			t.Errorf("a text of %d bytes is not the same as itself", n)
		}
	}
}

func TestH3TextsThatDifferInOneBit(t *testing.T) {
	a := text(70)
	for i := range len(a) {
		for bit := range 8 {
			b := []byte(a)
			b[i] ^= 1 << bit
			if hash.Same(a, string(b)) || hash.Same(string(b), a) {
				t.Errorf("Same, though bit %d of byte %d differs", bit, i)
			}
		}
	}
}

func TestH3OtherTextsThatDiffer(t *testing.T) {
	for _, c := range [][2]string{
		{"", "a"}, {"", "\x00"}, {"a", "a\x00"}, {"ab", "a"}, {"ab", "b"}, {"ab", "ba"},
		{"ab", "aB"}, {"\x01\x01", "\x02\x02"}, {"\x80\x80", "\x00\x00"}, {text(64), text(65)},
	} {
		if hash.Same(c[0], c[1]) || hash.Same(c[1], c[0]) {
			t.Errorf("Same(%q, %q), though they differ", c[0], c[1])
		}
	}
}
