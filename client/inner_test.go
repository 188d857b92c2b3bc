package client

import (
	"strings"
	"testing"

	"strongbox/api"
	"strongbox/wire"
)

func text(n int) string { return strings.Repeat("k", n) }

func madeOf(t *testing.T) *Client {
	t.Helper()
	c, errno := New(text(32), text(32))
	if errno != api.OK {
		t.Fatalf("New = %d", errno)
	}
	return c
}

func take(t *testing.T, c *Client, kind int, r api.Reply) {
	t.Helper()
	s, _ := wire.EncodeReply(kind, r)
	if _, errno := c.Take(s); errno != api.OK && errno != api.ErrClientLost {
		t.Fatalf("Take = %d", errno)
	}
}

// What is over, lost or cancelled leaves nothing behind: the client is what it was when it was made.
func TestR2NothingIsKeptOfWhatIsOver(t *testing.T) {
	challenge := api.Reply{Status: api.Challenge, Places: make([]int, api.Places)}
	for name, do := range map[string]func(c *Client){
		"an Offer": func(c *Client) { c.Write(1, 2, text(256)); take(t, c, 8, api.Reply{Status: api.OverQuota}) },
		"a Prove": func(c *Client) {
			c.Write(1, 2, text(256))
			take(t, c, 8, challenge)
			take(t, c, 9, api.Reply{})
		},
		"a Cancel": func(c *Client) { c.Write(1, 2, text(256)); take(t, c, 8, challenge); c.Cancel() },
		"a Read":   func(c *Client) { c.Read(1, 2); take(t, c, 11, api.Reply{Wrapped: text(48), Data: text(256)}) },
		"a Trim":   func(c *Client) { c.Trim(1, 2); take(t, c, 12, api.Reply{}) },
		"an error": func(c *Client) { c.Write(1, 2, text(255)); c.Write(0, 2, text(256)); c.Read(1, 60); c.Take("") },
		"SealAll":  func(c *Client) { c.SealAll([]string{text(256), text(256)}) },
	} {
		c := madeOf(t)
		do(c)
		if *c != *madeOf(t) {
			t.Errorf("behind %s it keeps something", name)
		}
	}
}

// When the chunk was said to be sent, it is needed no more.
func TestR2NoChunkIsKeptBehindTheUpload(t *testing.T) {
	c := madeOf(t)
	c.Write(1, 2, text(256))
	take(t, c, 8, api.Reply{Status: api.Challenge, Places: make([]int, api.Places)})
	take(t, c, 9, api.Reply{Status: api.Need})
	if want := (errand{kind: api.AskUpload}); c.waits != want {
		t.Errorf("it waits on kind %d, and keeps more than that", c.waits.kind)
	}
}
