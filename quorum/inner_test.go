package quorum

import (
	"testing"

	"strongbox/api"
)

// A node that neither New nor Load has made answers something, and does nothing.
func TestR1NothingPanicsOfZeroValues(t *testing.T) {
	var q Node
	if l, errno := q.Start(); len(l) != 0 || errno != api.ErrQuorumRound {
		t.Errorf("Start = %q, %d", l, errno)
	}
	if _, l, errno := q.Offer("v"); len(l) != 0 || errno != api.ErrQuorumLead {
		t.Errorf("Offer = %q, %d", l, errno)
	}
	for _, m := range []message{prepare{6}, promise{5, nil}, accept{6, 0, "v"}, accepted{5, 0}, holds{0, "v"}, refuse{7}, ask{0}} {
		if l, errno := q.Take(frame{1, 0, m}.text()); len(l) != 0 || errno != api.ErrQuorumFrame {
			t.Errorf("Take = %q, %d", l, errno)
		}
	}
	if len(q.Again())+len(q.Ask())+len(q.Row()) != 0 || q.Leads() {
		t.Error("it says something")
	}
	if v, is := q.Value(0); v != "" || is {
		t.Errorf("Value = %q, %v", v, is)
	}
	q.Saved()
}

// Long texts are refused without much ado.
func TestR1LongTexts(t *testing.T) {
	b := make([]byte, 1<<26)
	for i := range b {
		b[i] = 255
	}
	for _, head := range []string{"QM\x02\x00\x01\x00\x00\x00\x01\xff\xff", "QM\x03\x00\x01\x00\x00\x00\x05\x00\x01\xff\xff", "QM\x07\x00\x01", "QS\x01\x03\x00\x00\x00\x01\x00\x00\xff\xff", "QS\x01\x03\x00\x00\x00\x08\xff\xff"} {
		copy(b, head)
		s := string(b)
		if _, errno := To(s); errno != api.ErrQuorumFrame {
			t.Errorf("To = %d", errno)
		}
		if _, errno := Load(1, 3, s); errno != api.ErrQuorumForm {
			t.Errorf("Load = %d", errno)
		}
	}
}

// What a node keeps of promises and acceptances is gone when it is idle.
func TestNothingIsKeptOfWhatIsOver(t *testing.T) {
	q, _ := New(0, 3)
	q.Start()
	if q.asks == nil || q.leads != nil {
		t.Error("it does not ask")
	}
	q.Take(frame{1, 0, promise{0, entries{3: {0, "v"}}}}.text())
	if q.asks != nil || q.leads == nil || len(q.leads.accepted) != 4 {
		t.Error("it does not lead")
	}
	q.Take(frame{1, 0, refuse{1}}.text())
	if q.asks != nil || q.leads != nil {
		t.Error("it is not idle")
	}
}
