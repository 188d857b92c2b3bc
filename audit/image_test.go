package audit_test

import (
	"crypto/sha256"
	"hash/crc32"
	"slices"
	"strings"
	"testing"

	"strongbox/api"
	"strongbox/audit"
)

// noughts are so many bytes 0.
func noughts(n int) string { return strings.Repeat("\x00", n) }

// number is a number by so many bytes.
func number(n, bytes int) string {
	s := ""
	for range bytes {
		s = string([]byte{byte(n)}) + s
		n >>= 8
	}
	return s
}

// valueOf is the number that bytes are.
func valueOf(s string) int {
	n := 0
	for _, b := range []byte(s) {
		n = n<<8 | int(b)
	}
	return n
}

// digestOf is a text's digest, by the library.
func digestOf(s string) string {
	sum := sha256.Sum256([]byte(s))
	return string(sum[:])
}

// text is a chunk of this number.
func text(n int) string {
	s := ""
	for k := range 8 {
		s += digestOf("text" + number(n, 8) + number(k, 1))
	}
	return s
}

// page is a page as a sector, with the library's check.
func page(kind, n int, body string) string {
	s := "SB" + number(kind, 1) + number(len(body), 1) + number(n, 4) + body
	s += noughts(252 - len(s))
	c := crc32.ChecksumIEEE([]byte(s))
	return s + string([]byte{byte(c), byte(c >> 8), byte(c >> 16), byte(c >> 24)})
}

// bodyOf is the body of a sector that is a page.
func bodyOf(s string) string { return s[8 : 8+int(s[3])] }

// changed is a text with other bytes from one on.
func changed(s string, at int, with string) string { return s[:at] + with + s[at+len(with):] }

// turned is a text in which one bit is the other one.
func turned(s string, bit int) string {
	return changed(s, bit/8, string([]byte{s[bit/8] ^ 1<<(bit%8)}))
}

// set lays other bytes into the body of a page, which is right again.
func set(image []string, sector, at int, with string) {
	s := image[sector]
	image[sector] = page(int(s[2]), valueOf(s[4:8]), changed(bodyOf(s), at, with))
}

// renumber gives a page another kind and number.
func renumber(image []string, sector, kind, n int) {
	image[sector] = page(kind, n, bodyOf(image[sector]))
}

// resize gives a page's body another length: cut, or with noughts behind it.
func resize(image []string, sector, size int) {
	s := image[sector]
	image[sector] = page(int(s[2]), valueOf(s[4:8]), (bodyOf(s) + noughts(size))[:size])
}

// mark says of a place whether it is taken, in a bitmap from the sector 27 on.
func mark(image []string, place int, isTaken bool) {
	sector, i := 27+place/256, place%256
	b := bodyOf(image[sector])[i/8] &^ (1 << (i % 8))
	if isTaken {
		b |= 1 << (i % 8)
	}
	set(image, sector, i/8, string([]byte{b}))
}

// slot is what stands at a place, as the index tells it.
func slot(digest string, times int) string { return "\x01" + digest + number(times, 4) }

// put lays a slot down for a place, in an index that begins at a sector.
func put(image []string, index, place int, s string) {
	set(image, index+place/6, place%6*37, s)
}

// seat is a tenant's page: who is there has a quota, a charge and volumes.
func seat(k, quota, charge int, volumes ...api.Volume) string {
	body := "\x01" + number(quota, 4) + number(charge, 4) + number(len(volumes), 1)
	for _, v := range volumes {
		body += number(v.Number, 1) + number(v.Root, 4)
	}
	return page(5, k, body+noughts(50-len(body)))
}

// root is a root page: the places of some leaves, by their numbers.
func root(tenant, volume int, leaves map[int]int) string {
	body := ""
	for l := range 20 {
		if place, isThere := leaves[l]; isThere {
			body += number(place+1, 2)
		} else {
			body += number(0, 2)
		}
	}
	return page(6, 100*tenant+volume, body)
}

// leaf is one that maps its blocks to these digests ("": it does not).
func leaf(tenant, volume, l int, digests ...string) string {
	marks, body := 0, ""
	for j := range 3 {
		if j < len(digests) && digests[j] != "" {
			marks |= 1 << j
			body += digests[j] + strings.Repeat("w", 48)
		} else {
			body += noughts(80)
		}
	}
	return page(7, 32*(100*tenant+volume)+l, number(marks, 1)+body)
}

// f is a finding.
func f(kind, where int) api.Finding { return api.Finding{Kind: kind, Where: where} }

// agrees looks at an image: the answer must be the model's, and the image as it was.
func agrees(t *testing.T, what string, image []string) ([]api.Finding, api.Totals, api.Errno) {
	t.Helper()
	was := slices.Clone(image)
	got, totals, e := audit.Look(image)
	want, wantTotals, wantE := plainLook(image)
	if !slices.Equal(got, want) || totals != wantTotals || e != wantE {
		t.Fatalf("%s: Look = %v, %+v, %d, want %v, %+v, %d", what, got, totals, e, want, wantTotals, wantE)
	}
	if !slices.Equal(image, was) {
		t.Fatalf("%s: the image was written into", what)
	}
	return got, totals, e
}

// finds looks at an image, in which just these findings must be.
func finds(t *testing.T, what string, image []string, want ...api.Finding) api.Totals {
	t.Helper()
	got, totals, e := agrees(t, what, image)
	if !slices.Equal(got, want) || e != api.OK {
		t.Errorf("%s: Look = %v, %d, want %v", what, got, e, want)
	}
	return totals
}

// refuses looks at an image that is none.
func refuses(t *testing.T, what string, image []string, want api.Errno) {
	t.Helper()
	got, totals, e := agrees(t, what, image)
	if len(got) != 0 || totals != (api.Totals{}) || e != want {
		t.Errorf("%s: Look = %v, %+v, %d, want %d", what, got, totals, e, want)
	}
}
