package town

import (
	"crypto/hmac"
	"crypto/sha256"
	"fmt"
	"slices"
	"strings"
	"testing"

	"strongbox/api"
	"strongbox/archive"
	"strongbox/proof"
	"strongbox/wire"
)

// played is a town behind some lines, and what was told of them.
func played(t *testing.T, script string) (*town, []string) {
	t.Helper()
	x := newTown()
	return x, x.goesOn(t, script)
}

// goesOn plays further lines of a town; what is told of them. (A line "disk" begins only where there is none ahead.)
func (x *town) goesOn(t *testing.T, script string) []string {
	t.Helper()
	table := x.table()
	g := languageOf(table)
	var told []string
	for _, line := range strings.Split(strings.TrimSpace(script), "\n") {
		l, wrong := g.Lines("disk 128\n" + line + "\n")
		if strings.HasPrefix(line, "disk") {
			l, wrong = g.Lines(line + "\n")
		}
		if wrong != 0 {
			t.Fatalf("%q may not be", line)
		}
		last := l[len(l)-1]
		told = append(told, table[last.Form].serve(last))
	}
	return told
}

// Each line that there is has a form and what serves it, and no two have the same.
func TestN1EachRowHasAForm(t *testing.T) {
	table := newTown().table()
	forms := languageOf(table).Forms
	if len(table) != 21 || len(forms) != 21 || forms[0] != "disk S" {
		t.Errorf("%q", forms)
	}
	for k, r := range table {
		if r.form == "" || r.serve == nil || forms[k] != r.form || slices.Index(forms, r.form) != k {
			t.Errorf("row %d has the form %q", k, r.form)
		}
	}
}

func sumOf(s string) string {
	x := sha256.Sum256([]byte(s))
	return string(x[:])
}

// frames is how many frames a town has sent: an Offer of the tenant 8, of a volume of its own, tells its draw by the challenge's places.
func (x *town) frames(t *testing.T) int {
	t.Helper()
	r := api.Request{Kind: api.AskOffer, Volume: 99, Block: 0, Digest: sumOf("any"), Wrapped: strings.Repeat("w", api.WrappedSize)}
	reply := x.Send(8, r)
	if reply.Status != api.Challenge {
		t.Fatalf("status %d", reply.Status)
	}
	for k := 1; k < 2000; k++ {
		places, _ := proof.PlacesOf(sumOf(fmt.Sprintf("draw %d", k))[:16], r.Digest)
		if slices.Equal(places, reply.Places) {
			return k - 1
		}
	}
	t.Fatal("no draw gives these places")
	return 0
}

// How many draws the frames of each line take.
func TestN2HowManyDrawsEachLineTakes(t *testing.T) {
	x, _ := played(t, "disk 300\nadmin add 8 3\n8 vol 99\nadmin add 1 4\nadmin add 2 20\n2 vol 1\n1 vol 1\n1 write 1 0 a\n1 write 1 1 b")
	last := x.frames(t) + 1
	for _, s := range []struct {
		line, told string
		draws      int
	}{
		{"1 save home 1", "saved 2", 60}, {"1 save home 2", "novolume", 1}, {"3 save home 1", "notenant", 1}, {"2 save none 1", "saved 0", 60},
		{"1 more home 1", "changed 0 0", 60}, {"1 more home 2", "novolume", 1}, {"1 more away 1", "none", 0}, {"1 more away 2", "none", 0},
		{"2 load home 1", "loaded 2", 60}, {"2 load none 1", "loaded 0", 60}, {"2 load home 2", "novolume", 1}, {"3 load home 1", "notenant", 1}, {"2 load away 1", "none", 0},
		{"1 trim 1 0", "done", 1}, {"1 trim 1 1", "done", 1}, {"1 vol 2", "done", 1}, {"1 vol 3", "done", 1}, {"1 load home 1", "overquota", 1}, {"1 unvol 3", "done", 1}, {"1 load home 1", "overquota", 2},
		{"1 unvol 2", "done", 1}, {"1 write 1 59 c", "overquota", 1}, {"1 load home 1", "loaded 2", 60},
		{"split home 2 1", "shards 3", 0}, {"1 more home 1", "split", 0}, {"lose home 0", "ok", 0}, {"1 load home 1", "loaded 2", 60}, {"lose home 1", "ok", 0}, {"1 load home 1", "few", 0}, {"1 load home 9", "few", 0},
		{"2 more none 1", "changed 0 0", 60}, {"2 more none 1", "changed 0 0", 60}, {"2 more none 1", "changed 0 0", 60}, {"2 more none 1", "changed 0 0", 60}, {"2 more none 1", "full", 0},
		{"note", "noted", 0}, {"ship 1", "replica 1 left 0", 0}, {"promote", "promoted 1", 0}, {"1 link", "linked", 0}, {"1 say a 1", "a", 0}, {"power", "up", 0}, {"audit", "findings 0", 0},
		{"totals", "chunks 2 pages 4 mapped 2 charged 6 promised 27 capacity 231", 0}, {"1 stat", "done quota 4 charge 4", 1},
		{"1 write 1 0 z", "done uploaded", 3}, {"1 write 1 1 z", "done proved", 2}, {"1 read 1 1", "done z", 1}, {"1 unvol 1", "notempty", 1}, {"admin add 1 1", "exists", 1},
	} {
		if told := x.goesOn(t, s.line)[0]; told != s.told {
			t.Fatalf("%s: %q, want %q", s.line, told, s.told)
		}
		n := x.frames(t)
		if n-last != s.draws {
			t.Errorf("%s: %d draws, want %d", s.line, n-last, s.draws)
		}
		last = n + 1
	}
}

// What a NAME is: the archives of layer 20, of the blocks as the server tells them; in shards these, and nothing else.
func TestN2WhatANameIs(t *testing.T) {
	x, _ := played(t, "disk 128\nadmin add 1 40\n1 vol 5\n1 write 5 3 a\n1 write 5 50 b")
	read := func() []api.Item {
		var l []api.Item
		for block := range 60 {
			frame, _ := wire.EncodeRequest(api.Request{Kind: api.AskRead, Volume: 5, Block: block})
			reply, _ := wire.DecodeReply(api.AskRead, x.SendFrame(1, frame))
			if reply.Status == api.Done {
				l = append(l, api.Item{Block: block, Data: reply.Data, Wrapped: reply.Wrapped})
			}
		}
		return l
	}
	one := read()
	x.goesOn(t, "1 save home 5\n1 trim 5 3\n1 write 5 7 c")
	two := read()
	x.goesOn(t, "1 more home 5")
	whole, _ := archive.Whole(one)
	change, _ := archive.Change(one, two)
	a, isArchives := x.carried["home"].(*archives)
	if !isArchives || !slices.Equal(a.chain, []string{whole, change}) {
		t.Fatalf("it is %v", x.carried["home"])
	}
	x.goesOn(t, "split home 3 2")
	s, isShards := x.carried["home"].(*shards)
	if !isShards || s.data != 3 || s.parity != 2 || len(s.ofEach) != 2 {
		t.Fatalf("it is %v", x.carried["home"])
	}
	for i, text := range []string{whole, change} {
		want, _ := archive.Pack(text, 3, 2)
		if !slices.Equal(s.ofEach[i], want) {
			t.Errorf("archive %d has other shards", i)
		}
	}
	x.goesOn(t, "lose home 1\nlose home 5\nlose home 4")
	for i, text := range []string{whole, change} {
		want, _ := archive.Pack(text, 3, 2)
		want[1], want[4] = "", ""
		if !slices.Equal(s.ofEach[i], want) {
			t.Errorf("archive %d has other shards left", i)
		}
	}
	// What was saved anew is that alone.
	x.goesOn(t, "1 save home 5")
	whole, _ = archive.Whole(two)
	if a, isArchives := x.carried["home"].(*archives); !isArchives || !slices.Equal(a.chain, []string{whole}) {
		t.Errorf("it is %v", x.carried["home"])
	}
}

// helloOf is the hello of a side by a tenant's key, with the nonce of the town's j-th end.
func helloOf(tenant, side, j int) string {
	head := "LH" + string([]byte{byte(side)}) + sumOf(fmt.Sprintf("nonce %d", j))[:16]
	mac := hmac.New(sha256.New, []byte(sumOf(fmt.Sprintf("link %d", tenant))))
	mac.Write([]byte(head))
	return head + string(mac.Sum(nil)[:16])
}

// Keys and nonces are those that the document says, link upon link; a link's ends are ready.
func TestN2KeysAndNoncesOfLinks(t *testing.T) {
	x, _ := played(t, "disk 128")
	for i, tenant := range []int{1, 8, 1, 3, 3, 2} {
		x.goesOn(t, fmt.Sprintf("%d link", tenant))
		l, isLinked := x.talks[tenant].(*linked)
		if !isLinked || !l.tenant.Ready() || !l.store.Ready() {
			t.Fatalf("link %d is %v", i, x.talks[tenant])
		}
		if l.tenant.Hello() != helloOf(tenant, 0, 2*i+1) || l.store.Hello() != helloOf(tenant, 1, 2*i+2) {
			t.Errorf("link %d of tenant %d has other hellos", i, tenant)
		}
		x.goesOn(t, fmt.Sprintf("%d say a x4\n%d say b 0", tenant, tenant))
		if sent, taken := l.tenant.Counts(); sent != 2 || taken != 0 {
			t.Errorf("the tenant's end has sent %d, taken %d", sent, taken)
		}
		if sent, taken := l.store.Counts(); sent != 0 || taken != 1 {
			t.Errorf("the store's end has sent %d, taken %d", sent, taken)
		}
	}
}

// A frame is spoilt in the lowest bit of its last byte alone.
func TestN2ASpoiltFrame(t *testing.T) {
	for frame, want := range map[string]string{"a\x00": "a\x01", "a\x01": "a\x00", "\xff\xff": "\xff\xfe", "b": "c"} {
		if got := spoilt(frame); got != want {
			t.Errorf("%q: %q, want %q", frame, got, want)
		}
	}
}

// Behind a line nothing is late but what that line has kept.
func TestN2WhatIsKeptOfALink(t *testing.T) {
	x, _ := played(t, "disk 128\n1 link\n1 say a 441")
	l := x.talks[1].(*linked)
	if len(l.late) != 2 || l.late[0] != l.late[1] {
		t.Errorf("%d frames are late", len(l.late))
	}
	x.goesOn(t, "1 say b 0")
	if len(l.late) != 0 {
		t.Errorf("%d frames are late", len(l.late))
	}
}

// Behind promote the store stands on the replica's disk, and images go nowhere.
func TestN2WhatPromoteMakesOfATown(t *testing.T) {
	x, _ := played(t, "disk 128\nadmin add 1 9\nnote\nship 1\nadmin add 2 9")
	was := x.Disk
	p := x.shipped.(*pair)
	want, _ := p.replica.Image()
	x.goesOn(t, "promote")
	if x.Disk == was || !slices.Equal(x.Disk.Image(), want) || x.shipped != (shipped)(nobody{}) {
		t.Error("the store is on another disk")
	}
	if told := x.goesOn(t, "1 stat\n2 stat"); !slices.Equal(told, []string{"done quota 9 charge 0", "notenant"}) {
		t.Errorf("told %q", told)
	}
	// Nothing was written to the disk that was, nor to what the replica has.
	x.goesOn(t, "1 vol 1")
	if image, _ := p.replica.Image(); !slices.Equal(image, want) || slices.Equal(x.Disk.Image(), want) {
		t.Error("the replica has another image")
	}
}

// The replica is made with the first line ship that finds a primary; promote without it does nothing.
func TestN2WhenTheReplicaIsMade(t *testing.T) {
	x, _ := played(t, "disk 128\nship 1\nnote\npromote\nnote")
	p := x.shipped.(*pair)
	if p.replica != nil {
		t.Error("there is a replica")
	}
	x.goesOn(t, "ship 0\npromote")
	if p.replica == nil || x.shipped != (shipped)(p) {
		t.Error("there is none")
	}
}
