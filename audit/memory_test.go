package audit_test

import (
	"runtime"
	"slices"
	"sync"
	"testing"
	"time"

	"strongbox/api"
	"strongbox/audit"
)

// images are some in which nothing, little and much is found, and some that are refused.
func images(t *testing.T) [][]string {
	t.Helper()
	all := formatted(t, 128).d.Image()
	for place := range 85 {
		mark(all, place, true)
	}
	short := blank(128)
	short[127] = "short"
	return [][]string{
		formatted(t, 128).d.Image(), furnished(t).d.Image(), formatted(t, 1024).d.Image(), all, blank(128), blank(127), nil, short,
		spoilt(t, func(l []string) { l[28], l[27], l[19] = noughts(256), noughts(256), noughts(256) }),
		spoilt(t, func(l []string) { l[at(0)], l[at(1)], l[at(9)] = text(1), text(2), text(3) }),
	}
}

// roomy is a list with spare room, in which something stands.
func roomy(l []string) []string {
	return append(slices.Clone(l), "behind", text(99), "", "it")[:len(l)]
}

func TestA3TheImageIsAsItWas(t *testing.T) {
	for k, was := range images(t) {
		l := roomy(was)
		for range 3 {
			agrees(t, "with spare room", l)
		}
		if !slices.Equal(l[:len(was)+4], append(slices.Clone(was), "behind", text(99), "", "it")) {
			t.Errorf("image %d was written into", k)
		}
	}
}

// What comes out is the caller's, spare room too, and what was handed in is not kept.
func TestA3FindingsAreNewMemory(t *testing.T) {
	for k, image := range images(t) {
		l := roomy(image)
		first, _, _ := audit.Look(l)
		second, _, _ := audit.Look(l)
		want := slices.Clone(first)
		for i := range first[:cap(first)] {
			first[:cap(first)][i] = f(99, 99)
		}
		if !slices.Equal(second, want) {
			t.Errorf("image %d: two calls share memory", k)
		}
		third, _, _ := audit.Look(l)
		if !slices.Equal(third, want) {
			t.Errorf("image %d: what was written over is told", k)
		}
		for i := range l {
			l[i] = "written over"
		}
		if !slices.Equal(second, want) || !slices.Equal(third, want) {
			t.Errorf("image %d: the image is kept", k)
		}
		agrees(t, "behind that", image)
	}
}

// What a call answers hangs on its image alone, not on what was looked at ahead of it, nor on how goroutines run.
func TestA3TheSameImageIsAnsweredTheSame(t *testing.T) {
	all := images(t)
	for n := range 30 {
		for k := range all {
			agrees(t, "one after the other", all[(k*7+n)%len(all)])
		}
	}
}

// areGone waits until there are no more goroutines than there were.
func areGone(t *testing.T, before int) {
	t.Helper()
	for range 400 {
		if runtime.NumGoroutine() <= before {
			return
		}
		time.Sleep(5 * time.Millisecond)
	}
	t.Errorf("%d goroutines, %d ahead of that", runtime.NumGoroutine(), before)
}

func TestA3NoGoroutineIsLeft(t *testing.T) {
	all := images(t)
	before := runtime.NumGoroutine()
	for range 20 {
		for _, image := range all {
			audit.Look(image)
		}
	}
	areGone(t, before)
}

func TestA3ManyCallsAtOnce(t *testing.T) {
	all := images(t)
	type answer struct {
		l []api.Finding
		x api.Totals
		e api.Errno
	}
	var want []answer
	for _, image := range all {
		l, x, e := plainLook(image)
		want = append(want, answer{l, x, e})
	}
	before := runtime.NumGoroutine()
	var wait sync.WaitGroup
	for g := range 16 {
		wait.Add(1)
		go func() {
			defer wait.Done()
			for n := range 60 {
				k := (g + n) % len(all)
				l, x, e := audit.Look(all[k])
				if !slices.Equal(l, want[k].l) || x != want[k].x || e != want[k].e {
					t.Errorf("image %d: %v, %+v, %d", k, l, x, e)
				}
			}
		}()
	}
	wait.Wait()
	areGone(t, before)
}

// Sectors of any bytes: none panics. (The model must say the same.)
func TestA3AnyBytes(t *testing.T) {
	for _, n := range []int{128, 200, 1024} {
		base := formatted(t, n).d.Image()
		for _, s := range []string{noughts(256), text(1), page(6, 101, noughts(40)), page(5, 1, noughts(50)), page(4, 0, noughts(222)), page(3, 0, noughts(32)), page(7, 3232, noughts(241)), page(1, 0, ""), page(255, 4294967295, string(make([]byte, 244)))} {
			image := slices.Repeat([]string{s}, n)
			agrees(t, "all the same", image)
			image[0] = base[0]
			agrees(t, "all the same, but the super page", image)
		}
	}
}
