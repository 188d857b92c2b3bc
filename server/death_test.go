package server_test

import (
	"math/rand"
	"slices"
	"testing"

	"strongbox/api"
	"strongbox/server"
)

// scene is a request that changes a furnished store: what is to be asked ahead of it, who asks, and what.
type scene func(b *box) (int, api.Request)

// asked is one without anything ahead of it.
func asked(k int, r api.Request) scene {
	return func(*box) (int, api.Request) { return k, r }
}

// proving is a Prove, with the Offer ahead of it.
func proving(k, n, i, c, w int) scene {
	return func(b *box) (int, api.Request) {
		b.Helper()
		nonce, sample := b.offers(k, n, i, c, w)
		return k, prove(nonce, sample)
	}
}

func scenes() []scene {
	return []scene{
		asked(0, add(5, 15)), asked(0, add(7, 0)), asked(0, remove(8)), asked(0, remove(3)),
		asked(1, vol(1)), asked(8, vol(99)), asked(1, unvol(7)),
		asked(1, upload(7, 0, 50, 50)),  // a new chunk, a new leaf
		asked(1, upload(5, 2, 50, 50)),  // a new chunk in a leaf that is there
		asked(1, upload(7, 59, 10, 50)), // a chunk that is there, a new leaf
		asked(2, upload(5, 2, 11, 50)),
		asked(1, upload(5, 0, 50, 50)),  // over one that stays
		asked(1, upload(5, 1, 50, 50)),  // over one that goes
		asked(1, upload(5, 1, 10, 50)),  // the same, by a chunk that is there
		asked(1, upload(5, 1, 11, 50)),  // the same chunk, another key
		asked(1, upload(5, 1, 11, 1)),   // all as it was
		asked(4, upload(99, 59, 50, 1)), // of a quota that is used up
		proving(1, 7, 0, 13, 50), proving(1, 5, 2, 10, 50), proving(1, 5, 1, 10, 50), proving(1, 5, 1, 11, 50), proving(2, 5, 6, 14, 50),
		asked(1, trim(5, 0)), // a leaf and a chunk that stay
		asked(1, trim(5, 1)), // a chunk that goes
		asked(1, trim(5, 3)), // a leaf that goes
		asked(4, trim(99, 59)),
	}
}

// Each of them does the 38 acts of one commit: the box looks at that.
func TestV6EachChangeDoesTheSameActs(t *testing.T) {
	base := furnished(t, 128)
	var kinds []int
	for _, ask := range scenes() {
		b := base.copied()
		k, r := ask(b)
		acts := len(b.d.Trace())
		b.asks(k, r, api.Done)
		if n := len(b.d.Trace()) - acts; n != 38 {
			t.Errorf("%s: %d acts", told(k, r), n)
		}
		b.tells()
		kinds = append(kinds, r.Kind)
	}
	slices.Sort(kinds)
	if want := []int{1, 2, 4, 5, 9, 10, 12}; !slices.Equal(slices.Compact(kinds), want) {
		t.Errorf("the kinds are %v", slices.Compact(kinds))
	}
}

// What is refused, and what only tells, does none.
func TestV6AllOtherRequestsDoNoActs(t *testing.T) {
	b := furnished(t, 128)
	acts := len(b.d.Trace())
	for _, x := range []struct {
		k    int
		r    api.Request
		want api.Status
	}{
		{0, add(1, 0), api.Exists}, {0, add(5, 16), api.NoRoom}, {0, remove(5), api.NoTenant}, {0, remove(1), api.NotEmpty},
		{0, look(1), api.Done}, {0, look(5), api.NoTenant}, {1, vol(5), api.Exists}, {4, vol(1), api.OverQuota},
		{1, unvol(1), api.NoVolume}, {1, unvol(5), api.NotEmpty}, {1, vols(), api.Done}, {1, stat(), api.Done},
		{1, offer(5, 0, 10, 1), api.Challenge}, {1, offer(5, 60, 10, 1), api.OutOfRange}, {1, prove(9, "12345678"), api.Unmapped}, {1, prove(1, "12345678"), api.Need},
		{1, upload(1, 0, 1, 1), api.NoVolume}, {1, upload(5, 60, 1, 1), api.OutOfRange}, {4, upload(99, 0, 1, 1), api.OverQuota},
		{1, read(5, 0), api.Done}, {1, read(5, 59), api.Unmapped}, {1, trim(5, 59), api.Unmapped}, {1, trim(5, 60), api.OutOfRange},
		{0, stat(), api.NotAllowed}, {1, add(5, 1), api.NotAllowed}, {7, vol(1), api.NoTenant},
	} {
		b.asks(x.k, x.r, x.want)
	}
	b.totals()
	b.handles(0, "", drawOf(1), replyOf(t, 0, bare(api.BadFrame)), api.OK)
	if n := len(b.d.Trace()) - acts; n != 0 {
		t.Errorf("%d acts", n)
	}
}

// few are choices among so many pending writes.
func few(r *rand.Rand, pending int) [][]int {
	l := [][]int{nil, upTo(pending), some(r, pending, 2)}
	if pending > 1 {
		l = append(l, []int{0}, []int{pending - 1}, upTo(pending)[1:], upTo(pending-1))
	}
	return l
}

// dies asks a request in which the disk dies at an act; what was ahead of it, and what it would have made.
func (b *box) dies(ask scene, act int) (*model, *model) {
	b.Helper()
	k, r := ask(b)
	was, now := b.m.clone(), b.m.clone()
	if s := now.answer(k, r, drawOf(1)).Status; !changes(r.Kind, s) {
		b.Fatalf("%s: status %d", told(k, r), s)
	}
	answers(b.T, "Arm", b.d.Arm(act), api.OK)
	if s, e := b.s.Handle(k, frameOf(b.T, r), drawOf(1)); s != "" || e != api.ErrDead {
		b.Fatalf("%s, dying at %d: %q, %d", told(k, r), act, s, e)
	}
	return was.reopened(), now.reopened()
}

// pendingAt is how many writes are pending where the disk dies at an act of a commit.
func pendingAt(act int) int {
	switch {
	case act <= 17:
		return act - 1
	case act <= 19:
		return act - 18
	case act <= 36:
		return act - 20
	}
	return act - 37
}

// A request in which the disk dies is done as a whole, or not at all: done, if the head was set and lasts.
func TestV8ADeathInARequestLeavesAllOfItOrNothing(t *testing.T) {
	r := rand.New(rand.NewSource(1))
	base := furnished(t, 128)
	for _, ask := range scenes() {
		for act := 1; act <= 38; act++ {
			for _, keep := range few(r, pendingAt(act)) {
				b := base.copied()
				was, now := b.dies(ask, act)
				if b.d.Pending() != pendingAt(act) {
					t.Fatalf("%d writes are pending", b.d.Pending())
				}
				answers(t, "Crash", b.d.Crash(keep), api.OK)
				// Nobody has asked the dead disk meanwhile: the request itself has told the server that it is lost.
				b.handles(0, "", drawOf(1), "", api.ErrDead)
				b.m = was
				if act > 19 || act == 19 && len(keep) == 1 {
					b.m = now
				}
				b.open()
				b.stands()
			}
		}
	}
}

// A server whose disk died in a request is lost, and what comes behind it is right.
func TestV6ADeathInACommit(t *testing.T) {
	base := furnished(t, 128)
	for n, ask := range scenes() {
		for act := 1 + n%5; act <= 38; act += 5 {
			b := base.copied()
			was, now := b.dies(ask, act)
			b.isLost()
			answers(t, "Crash", b.d.Crash(nil), api.OK)
			b.isLost()
			b.m = was
			if act > 19 {
				b.m = now
			}
			b.open()
			b.does(1, upload(5, 20, 70, 70))
			b.does(2, trim(5, 0))
			b.proves(1, 5, 0, 10, 71, api.Done)
			if act > 33 {
				b.tells()
			}
		}
	}
}

// Deaths while it is opened again, however often.
func TestV8ManyDeathsOneBehindTheOther(t *testing.T) {
	base := furnished(t, 128)
	for seed := range int64(400) {
		r := rand.New(rand.NewSource(seed))
		act := 1 + r.Intn(38)
		b := base.copied()
		was, now := b.dies(scenes()[r.Intn(len(scenes()))], act)
		for s := (*server.Server)(nil); s == nil; {
			answers(t, "Crash", b.d.Crash(some(r, b.d.Pending(), r.Intn(5))), api.OK)
			answers(t, "Arm", b.d.Arm(r.Intn(22)), api.OK)
			s, _ = server.Open(b.d)
		}
		answers(t, "Arm", b.d.Arm(0), api.OK)
		isOld, isNew := b.isOnDisk(was), b.isOnDisk(now)
		if !isOld && !isNew || act < 19 && !isOld || act > 19 && !isNew {
			t.Fatalf("dead at %d: neither the old nor the new stands", act)
		}
		b.m = was
		if isNew {
			b.m = now
		}
		b.open()
		b.stands()
		b.does(2, read(5, 1))
		b.proves(2, 5, 30, 12, 80, api.Done)
	}
}

// All that was answered is there, also where nothing that is not flushed stays.
func TestV8WhatWasAnsweredIsThereBehindACrash(t *testing.T) {
	base := furnished(t, 128)
	for _, ask := range scenes() {
		b := base.copied()
		k, r := ask(b)
		b.asks(k, r, api.Done)
		if b.d.Pending() != 0 {
			t.Fatalf("%s: %d writes are pending", told(k, r), b.d.Pending())
		}
		answers(t, "Crash", b.d.Crash(nil), api.OK)
		b.open()
		b.tells()
	}
}
