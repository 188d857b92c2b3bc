package tenant_test

import (
	"slices"
	"testing"

	"strongbox/api"
	"strongbox/tenant"
)

func TestT1InitialIsThePagesOfATableOfNobody(t *testing.T) {
	if l := tenant.Initial(); !slices.Equal(l, state{}.pages(t)) {
		t.Fatalf("Initial = %q", l)
	}
}

func TestT1TheBytesOfAPage(t *testing.T) {
	l := tenant.Initial()
	if len(l) != 8 {
		t.Fatalf("Initial = %d pages", len(l))
	}
	for k, s := range l {
		// Kind 5, a body of 50 bytes, the number by 4 bytes, the body and what fills it up.
		want := "SB\x05\x32\x00\x00\x00" + string(rune(k+1)) + noughts(244)
		if len(s) != 256 || s[:252] != want {
			t.Fatalf("page %d is %q", k+1, s)
		}
	}
}

func TestT1ATableOfNobodyCanBeOpened(t *testing.T) {
	for _, capacity := range []int{0, 83, 1024} {
		w := opened(t, loaded(t, image(t, 128, 19, tenant.Initial()...)), 0, capacity)
		w.tells(t, state{})
		w.begin(t)
		w.does(t, add(8, capacity))
		w.tells(t, state{one(8, capacity, 0)})
		w.refuses(t, add(1, 1), api.ErrTenantRoom)
	}
}

func TestR2TheListOfInitialIsTheCallers(t *testing.T) {
	a, b := tenant.Initial(), tenant.Initial()
	for k := range a {
		a[k] = "x"
	}
	a = append(a[:0:cap(a)], "y")
	if c, want := tenant.Initial(), (state{}).pages(t); !slices.Equal(b, want) || !slices.Equal(c, want) || a[0] != "y" {
		t.Fatalf("Initial: %q, %q", b, c)
	}
}
