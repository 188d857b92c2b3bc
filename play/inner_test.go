package play

import (
	"strconv"
	"testing"

	"strongbox/api"
)

// Some statuses no line can tell, yet each has its word.
func TestW3StatusWords(t *testing.T) {
	for status, want := range []string{
		"done", "challenge", "need", "badframe", "notallowed", "notenant", "exists", "noroom", "notempty", "novolume", "toomany", "outofrange", "overquota", "unmapped",
	} {
		if got := outcome(api.AskTrim, api.Reply{Status: api.Status(status)}); got != want {
			t.Errorf("status %d: %q, want %q", status, got, want)
		}
		if got := Status(api.Status(status)); got != want {
			t.Errorf("status %d: %q, want %q", status, got, want)
		}
	}
	if len(statusWords) != 14 {
		t.Errorf("%d words", len(statusWords))
	}
}

// Of a reply that is not Done nothing but its status is told, whatever it is to.
func TestW3OutcomesThatAreNotDone(t *testing.T) {
	for kind := range api.AskTrim + 1 {
		if got := outcome(kind, api.Reply{Status: api.NoTenant}); got != "notenant" {
			t.Errorf("kind %d: %q", kind, got)
		}
	}
}

// idle holds that no client of a store waits for a reply.
func idle(t *testing.T, s *Store) {
	t.Helper()
	for k := 1; k <= api.MaxTenants; k++ {
		if _, errno := s.clients[k].Take(""); errno != api.ErrClientIdle {
			t.Errorf("client %d waits: %d", k, errno)
		}
	}
}

// A call in which the disk died leaves no client waiting, and tells nothing.
func TestW3WhatAClientWaitedForIsCancelled(t *testing.T) {
	var s Store
	s.Begin(128)
	s.Ask(Admin, api.Request{Kind: api.AskAddTenant, Tenant: 1, Quota: 9})
	s.Ask(1, api.Request{Kind: api.AskAddVolume, Volume: 1})
	s.Write(1, 1, 0, "a")
	idle(t, &s)
	for _, call := range []func() string{
		func() string { return s.Write(1, 1, 0, "b") },
		func() string { return s.Write(1, 1, 0, "a") },
		func() string { return s.Trim(1, 1, 0) },
	} {
		s.Disk.Arm(3)
		if told := call(); told != "" || !s.Disk.Dead() {
			t.Errorf("told %q", told)
		}
		idle(t, &s)
		s.Disk.Crash(nil)
		s.Open(s.Disk)
		if told := s.Read(1, 1, 0); told != "done a" {
			t.Errorf("read %q", told)
		}
	}
}

// Each frame has a draw of its own number: a client's Write sends two or three, all else one.
func TestW3FramesAreCounted(t *testing.T) {
	var s Store
	s.Begin(128)
	for i, x := range []struct {
		call func() string
		told string
		sent int
	}{
		{func() string { return s.Ask(Admin, api.Request{Kind: api.AskAddTenant, Tenant: 1, Quota: 9}) }, "done", 1},
		{func() string { return s.Write(1, 1, 0, "a") }, "novolume", 1},
		{func() string { return s.Ask(1, api.Request{Kind: api.AskAddVolume, Volume: 1}) }, "done", 1},
		{func() string { return s.Write(1, 1, 0, "a") }, "done uploaded", 3},
		{func() string { return s.Write(1, 1, 1, "a") }, "done proved", 2},
		{func() string { return s.Read(1, 1, 0) }, "done a", 1},
		{func() string { return s.Trim(1, 1, 0) }, "done", 1},
		{func() string { return Status(s.Send(1, api.Request{Kind: api.AskStat}).Status) }, "done", 1},
		{func() string { return strconv.Itoa(len(s.SendFrame(1, ""))) }, "5", 1},
		{s.Audit, "findings 0", 0},
		{s.Totals, "chunks 1 pages 2 mapped 1 charged 3 promised 9 capacity 83", 0},
	} {
		ahead := s.frames
		if told := x.call(); told != x.told || s.frames != ahead+x.sent {
			t.Errorf("%d: %q by %d frames, want %q by %d", i, told, s.frames-ahead, x.told, x.sent)
		}
	}
}
