package hash_test

import (
	"math/rand"
	"sync"
	"testing"

	"strongbox/hash"
)

// check holds a Hasher against the text that it must have taken.
func check(t *testing.T, h *hash.Hasher, s string) {
	t.Helper()
	if h == nil {
		t.Fatal("there is no Hasher")
	}
	if h.Len() != len(s) {
		t.Errorf("Len = %d, want %d", h.Len(), len(s))
	}
	if got, want := h.Sum(), wantSum(s); got != want {
		t.Errorf("Sum behind %d bytes = %x, want %x", len(s), got, want)
	}
}

func TestH5ANewHasherHasTakenNothing(t *testing.T) {
	h := hash.New()
	check(t, h, "")
	h.Write("")
	check(t, h, "")
	h.Write("abc")
	check(t, hash.New(), "")
}

func TestH5SumDoesNotHangOnTheCut(t *testing.T) {
	s := text(3*64 + 5)
	for i := range len(s) + 1 {
		for _, k := range []int{i, (i + len(s)) / 2, len(s)} {
			h := hash.New()
			h.Write(s[:i])
			h.Write(s[i:k])
			h.Write(s[k:])
			check(t, h, s)
		}
	}
}

func TestH5SumDoesNotHangOnAnyCuts(t *testing.T) {
	r := rand.New(rand.NewSource(5))
	for range 300 {
		s := text(r.Intn(600))
		h := hash.New()
		for at := 0; at < len(s); {
			n := min(r.Intn(150), len(s)-at)
			h.Write(s[at : at+n])
			at += n
		}
		check(t, h, s)
	}
}

// Each byte is followed by a Sum: the filling up must leave nothing behind in what goes on.
func TestH5SumChangesNothing(t *testing.T) {
	s := text(3 * 64)
	h := hash.New()
	for i := range len(s) {
		h.Write(s[i : i+1])
		check(t, h, s[:i+1])
		check(t, h, s[:i+1])
	}
}

func TestH5ACloneGoesOnByItself(t *testing.T) {
	s := text(200)
	for n := range len(s) + 1 {
		h := hash.New()
		h.Write(s[:n])
		c := h.Clone()
		check(t, c, s[:n])
		c.Write("what the clone takes")
		check(t, h, s[:n])
		h.Write("another text")
		check(t, c, s[:n]+"what the clone takes")
		check(t, h, s[:n]+"another text")
	}
}

func TestH5ACloneOfAClone(t *testing.T) {
	a := hash.New()
	a.Write("one ")
	b := a.Clone()
	b.Write("two ")
	c := b.Clone()
	c.Write("three")
	a.Write(text(100))
	check(t, a, "one "+text(100))
	check(t, b, "one two ")
	check(t, c, "one two three")
}

func TestH6ANilHasher(t *testing.T) {
	var h *hash.Hasher
	for _, s := range []string{"", "abc", text(200)} {
		h.Write(s)
		if h.Len() != 0 || h.Sum() != wantSum("") || h.Clone() != nil {
			t.Errorf("a nil Hasher behind Write of %d bytes: Len %d, Sum %x, Clone %v", len(s), h.Len(), h.Sum(), h.Clone())
		}
	}
}

func TestH6AnswersHangOnTheArgumentsAlone(t *testing.T) {
	a, b := hash.New(), hash.New()
	for i := range 100 {
		a.Write(text(i))
		sum, mac, before := hash.Sum(text(i)), hash.Mac(text(i), "x"), a.Sum()
		derived, _ := hash.Derive(text(i), "x", 40)
		b.Write("other")
		again, _ := hash.Derive(text(i), "x", 40)
		if hash.Sum(text(i)) != sum || hash.Mac(text(i), "x") != mac || again != derived || a.Sum() != before {
			t.Errorf("another answer at step %d", i)
		}
	}
}

func TestH6HashersDoNotDisturbOneAnother(t *testing.T) {
	var all sync.WaitGroup
	for k := range 8 {
		all.Go(func() {
			h := hash.New()
			s := ""
			for i := range 50 {
				h.Write(text(i + k))
				s += text(i + k)
			}
			if h.Sum() != wantSum(s) || h.Len() != len(s) {
				t.Errorf("Hasher %d was disturbed", k)
			}
		})
	}
	all.Wait()
}

func FuzzHasher(f *testing.F) {
	f.Add("", "")
	f.Add("abc", text(64))
	f.Fuzz(func(t *testing.T, a, b string) {
		h := hash.New()
		h.Write(a)
		c := h.Clone()
		h.Write(b)
		check(t, h, a+b)
		check(t, c, a)
		if hash.Mac(a, b) != wantMac(a, b) {
			t.Errorf("Mac(%q, %q)", a, b)
		}
		if x, e := hash.Unhex(hash.Hex(a)); x != a || e != 0 {
			t.Errorf("Unhex(Hex(%q)) = %q, %d", a, x, e)
		}
		hash.Unhex(b)
		hash.Same(a, b)
		hash.Derive(a, b, len(a)-len(b))
	})
}
