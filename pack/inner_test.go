package pack

import (
	"errors"
	"testing"

	"strongbox/api"
)

// What the calls do not need any more is not kept.
func TestNothingIsKeptThatNobodyCanAskFor(t *testing.T) {
	w := NewWriter()
	w.Raw("laid")
	w.Var(-1)
	w.Raw("behind")
	if w.laid != nil {
		t.Errorf("a Writer with something wrong keeps %q", w.laid)
	}
	r := NewReader("some text")
	r.Raw(4)
	r.Raw(-1)
	if r.rest != "" {
		t.Errorf("a Reader with something wrong keeps %q", r.rest)
	}
}

// wrapping is an error around another one.
type wrapping struct{ error }

func (w wrapping) Unwrap() error { return w.error }

func TestSettleKnowsWhatAReaderThrew(t *testing.T) {
	for _, thrown := range []any{giveUp{api.ErrPackForm}, wrapping{giveUp{api.ErrPackForm}}} {
		r := &Reader{rest: "rest", taken: 7}
		r.settle(5, thrown)
		if *r != (Reader{taken: 5, wrong: api.ErrPackForm}) {
			t.Errorf("behind %v: %+v", thrown, *r)
		}
	}
	r := &Reader{rest: "rest", taken: 7}
	r.settle(5, nil)
	if *r != (Reader{rest: "rest", taken: 7}) {
		t.Errorf("behind nothing thrown: %+v", *r)
	}
}

func TestSettleHidesNoFault(t *testing.T) {
	for _, thrown := range []any{errors.New("a fault"), "a fault"} {
		got := func() (got any) {
			defer func() { got = recover() }()
			NewReader("").settle(0, thrown)
			return nil
		}()
		if got != thrown {
			t.Errorf("behind %v: %v went on", thrown, got)
		}
	}
}

func TestGiveUpTellsItsNumber(t *testing.T) {
	if got := (giveUp{api.ErrPackForm}).Error(); got != "pack: error 34" {
		t.Errorf("it says %q", got)
	}
}
