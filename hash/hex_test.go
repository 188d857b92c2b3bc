package hash_test

import (
	"encoding/hex"
	"strings"
	"testing"

	"strongbox/api"
	"strongbox/hash"
)

func TestH4HexOfEachByte(t *testing.T) {
	if got := hash.Hex("\x0a"); got != "0a" {
		t.Errorf("Hex of the byte 10 = %q, want 0a", got)
	}
	for b := range 256 {
		s := string([]byte{byte(b)})
		want := hex.EncodeToString([]byte(s))
		if got := hash.Hex(s); got != want {
			t.Errorf("Hex of the byte %d = %q, want %q", b, got, want)
		}
		if got, e := hash.Unhex(want); got != s || e != api.OK {
			t.Errorf("Unhex(%q) = %q, %d, want the byte %d", want, got, e, b)
		}
	}
}

func TestH4HexOfTexts(t *testing.T) {
	for _, n := range []int{0, 1, 2, 3, 32, 300} {
		s := text(n)
		want := hex.EncodeToString([]byte(s))
		if got := hash.Hex(s); got != want {
			t.Errorf("Hex of %d bytes = %q, want %q", n, got, want)
		}
		if got, e := hash.Unhex(want); got != s || e != api.OK {
			t.Errorf("Unhex of %d signs = %q, %d, want %q", len(want), got, e, s)
		}
	}
}

func checkRefused(t *testing.T, s string) {
	t.Helper()
	if got, e := hash.Unhex(s); got != "" || e != api.ErrHashHex {
		t.Errorf("Unhex(%q) = %q, %d, want none, error %d", s, got, e, api.ErrHashHex)
	}
}

func TestH4UnhexRefusesEachByteThatIsNoSign(t *testing.T) {
	for b := range 256 {
		if strings.IndexByte("0123456789abcdef", byte(b)) >= 0 {
			continue
		}
		sign := string([]byte{byte(b)})
		checkRefused(t, sign+"0")
		checkRefused(t, "0"+sign)
		checkRefused(t, "00"+sign+"a00")
		checkRefused(t, "0011223"+sign)
	}
}

func TestH4UnhexRefuses(t *testing.T) {
	for _, s := range []string{"0G", "abc", "AB", "aB", "Ab", "0", "a", "00000", "0x", "é", " 00 ", "0x0"} {
		checkRefused(t, s)
	}
}
