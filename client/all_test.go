package client_test

import (
	"math/rand"
	"runtime"
	"slices"
	"strings"
	"sync"
	"testing"
	"time"

	"strongbox/api"
	"strongbox/client"
	"strongbox/seal"
)

// someBlocks are blocks by chance, seldom with one of a wrong length.
func (b *both) someBlocks(r *rand.Rand) []string {
	var l []string
	for range r.Intn(12) {
		l = append(l, plainOf(r.Intn(9)))
	}
	if len(l) > 0 && r.Intn(3) == 0 {
		l[r.Intn(len(l))] = plainOf(0)[r.Intn(256)+1:]
	}
	return l
}

// sealsAll seals a list: the answer must be the model's, in which each block is sealed by itself.
func (b *both) sealsAll(l []string) ([]string, []string, api.Errno) {
	b.Helper()
	chunks, keys, e := b.c.SealAll(l)
	if slices.ContainsFunc(l, func(s string) bool { return len(s) != 256 }) {
		if len(chunks) != 0 || len(keys) != 0 || e != api.ErrSealSize {
			b.Fatalf("SealAll = %d, %d, %d, want ErrSealSize", len(chunks), len(keys), e)
		}
		return chunks, keys, e
	}
	if len(chunks) != len(l) || len(keys) != len(l) || e != api.OK {
		b.Fatalf("SealAll of %d = %d, %d, %d", len(l), len(chunks), len(keys), e)
	}
	for i, plain := range l {
		if chunk, key := sealed(b.m.domain, plain); chunks[i] != chunk || keys[i] != key {
			b.Fatalf("SealAll of %d: place %d is another's", len(l), i)
		}
	}
	return chunks, keys, e
}

// blocks are so many, all different.
func blocks(n int) []string {
	var l []string
	for i := range n {
		l = append(l, plainOf(i))
	}
	return l
}

func Test15_5NoneOneAndMany(t *testing.T) {
	b := begun(t, "domain", "master")
	b.sealsAll(nil)
	b.sealsAll([]string{})
	for n := range 40 {
		b.sealsAll(blocks(n))
	}
	for _, n := range []int{63, 64, 65, 255, 256, 257, 2000} {
		b.sealsAll(blocks(n))
	}
}

func Test15_5TheSameBlockInManyPlaces(t *testing.T) {
	b := begun(t, "domain", "master")
	b.sealsAll([]string{plainOf(1), plainOf(1), plainOf(2), plainOf(1)})
	b.sealsAll(slices.Repeat([]string{zeros(256)}, 50))
	b.sealsAll(slices.Repeat([]string{zeros(256), plainOf(1), strings.Repeat("\xff", 256)}, 30))
}

// Each chunk and key is Seal's own, in the client's domain, whatever its master.
func Test15_5EachIsSealsOwn(t *testing.T) {
	for _, domain := range []string{"domain", "another"} {
		for _, master := range []string{"master", "domain"} {
			chunks, keys, _ := begun(t, domain, master).sealsAll(blocks(30))
			for i, plain := range blocks(30) {
				if chunk, key, _ := seal.Seal(keyOf(domain), plain); chunks[i] != chunk || keys[i] != key {
					t.Errorf("place %d of the domain %s", i, domain)
				}
			}
		}
	}
}

func Test15_5OneOfAWrongLength(t *testing.T) {
	b := begun(t, "domain", "master")
	for _, n := range []int{1, 2, 3, 8, 9, 50} {
		for _, at := range []int{0, n / 2, n - 1} {
			for _, size := range []int{0, 1, 255, 257, 512} {
				l := blocks(n)
				l[at] = strings.Repeat("p", size)
				if _, _, e := b.sealsAll(l); e != api.ErrSealSize {
					t.Errorf("of %d, with %d bytes at place %d: %d", n, size, at, e)
				}
			}
		}
	}
	b.sealsAll([]string{"", "", ""})
	b.sealsAll([]string{plainOf(1)[1:], plainOf(2), plainOf(3) + "x"})
	// Bytes are not made up for by others.
	b.sealsAll([]string{plainOf(1) + "x", plainOf(2)[1:]})
	b.sealsAll(blocks(9))
}

// It does not hang on what the client waits for, and changes nothing of it.
func Test15_5WhileItWaits(t *testing.T) {
	for _, kind := range waits() {
		for _, l := range [][]string{nil, blocks(1), blocks(20), {plainOf(1), "short"}} {
			b := waiting(t, kind, 5, 6, 7)
			b.sealsAll(l)
			b.sealsAll(l)
			if kind > 0 {
				b.answers("", api.Step{}, api.ErrClientReply)
			}
			b.ends()
			b.sealsAll(l)
		}
	}
}

// roomy is a list with spare room, in which something stands.
func roomy(l []string) []string {
	return append(slices.Clone(l), "behind", plainOf(99), "", "it")[:len(l)]
}

func Test15_5TheListIsAsItWas(t *testing.T) {
	b := begun(t, "domain", "master")
	for _, was := range [][]string{nil, blocks(1), blocks(2), blocks(30), {plainOf(1), "short", plainOf(2)}, {"short"}, {plainOf(1), plainOf(2) + "x"}} {
		l := roomy(was)
		b.sealsAll(l)
		if !slices.Equal(l[:len(was)+4], append(slices.Clone(was), "behind", plainOf(99), "", "it")) {
			t.Errorf("of %d: the list was written into", len(was))
		}
	}
}

// overwrite writes something else into a list and into its spare room.
func overwrite(l []string) {
	l = l[:cap(l)]
	for i := range l {
		l[i] = "written over"
	}
}

// What is handed in is not kept, what comes out is the caller's, and both lists have memory of their own, spare room too.
func Test15_5TheListsAreNewMemory(t *testing.T) {
	b := begun(t, "domain", "master")
	for _, n := range []int{1, 2, 7, 8, 9, 33} {
		l := roomy(blocks(n))
		chunks, keys, _ := b.sealsAll(l)
		again, keysAgain, _ := b.sealsAll(l)
		wantChunks, wantKeys := slices.Clone(chunks), slices.Clone(keys)
		overwrite(l)
		if !slices.Equal(chunks, wantChunks) || !slices.Equal(keys, wantKeys) {
			t.Errorf("of %d: the list that was handed in is kept", n)
		}
		overwrite(chunks)
		if !slices.Equal(keys, wantKeys) || !slices.Equal(again, wantChunks) {
			t.Errorf("of %d: the chunks share memory", n)
		}
		overwrite(keysAgain)
		if !slices.Equal(keys, wantKeys) || !slices.Equal(again, wantChunks) {
			t.Errorf("of %d: the keys share memory", n)
		}
		b.sealsAll(blocks(n))
	}
}

// areGone waits until there are no more goroutines than there were.
func areGone(t *testing.T, before int) {
	t.Helper()
	for range 400 {
		if runtime.NumGoroutine() <= before {
			return
		}
		time.Sleep(5 * time.Millisecond)
	}
	t.Errorf("%d goroutines, %d ahead of that", runtime.NumGoroutine(), before)
}

func Test15_5NoGoroutineIsLeft(t *testing.T) {
	b := begun(t, "domain", "master")
	before := runtime.NumGoroutine()
	for n := range 60 {
		b.sealsAll(blocks(n))
		b.sealsAll(append(blocks(n), "short"))
		b.sealsAll(append([]string{"short"}, blocks(n)...))
	}
	b.sealsAll(nil)
	areGone(t, before)
}

// Clients of their own do not disturb one another, also at the same time.
func TestR2ClientsAtTheSameTime(t *testing.T) {
	before := runtime.NumGoroutine()
	var all sync.WaitGroup
	for g := range 8 {
		c, _ := client.New(keyOf("domain"), keyOf(number(g, 1)))
		b := &both{T: t, c: c, m: model{domain: keyOf("domain"), master: keyOf(number(g, 1))}}
		all.Add(1)
		go func() {
			defer all.Done()
			r := rand.New(rand.NewSource(int64(g)))
			for range 150 {
				b.moves(r)
			}
		}()
	}
	all.Wait()
	areGone(t, before)
}

// SealAll changes nothing: so it may be called while it is being called.
func TestR2SealAllAtTheSameTime(t *testing.T) {
	b := begun(t, "domain", "master")
	l := blocks(25)
	var all sync.WaitGroup
	for range 8 {
		all.Add(1)
		go func() {
			defer all.Done()
			for range 10 {
				b.sealsAll(l)
			}
		}()
	}
	all.Wait()
}

// What New did not make has no keys, and waits for nothing.
func TestR1ClientsThatNewDidNotMake(t *testing.T) {
	none, _ := client.New("", "")
	for _, c := range []*client.Client{none, nil, {}} {
		c.Cancel()
		for _, call := range []func() (string, api.Errno){
			func() (string, api.Errno) { return c.Write(1, 0, plainOf(1)) },
			func() (string, api.Errno) { return c.Read(1, 0) },
			func() (string, api.Errno) { return c.Trim(1, 0) },
		} {
			if f, e := call(); f != "" || e != api.ErrSealKey {
				t.Errorf("%x, %d", f, e)
			}
		}
		if s, e := c.Take(bare(11, api.Unmapped)); s != (api.Step{}) || e != api.ErrClientIdle {
			t.Errorf("Take = %s, %d", told(s), e)
		}
		if chunks, keys, e := c.SealAll(blocks(2)); len(chunks) != 0 || len(keys) != 0 || e != api.ErrSealKey {
			t.Errorf("SealAll = %d, %d, %d", len(chunks), len(keys), e)
		}
	}
}
