package quorum

import (
	"strongbox/api"
	"strongbox/pack"
)

// The kinds of messages.
const (
	_ = iota
	kindPrepare
	kindPromise
	kindAccept
	kindAccepted
	kindHolds
	kindRefuse
	kindAsk
)

// message is what a frame says beside from whom it is, and to whom.
type message interface {
	kind() int
	// lay lays its fields down.
	lay(w *pack.Writer)
	// mayGo tells whether its fields are such as may go from the one node to the other.
	mayGo(from, to int) bool
}

type prepare struct{ ballot int }

func (m prepare) kind() int { return kindPrepare }

func (m prepare) lay(w *pack.Writer) { w.Num(ballotWidth, m.ballot) }

func (m prepare) mayGo(from, to int) bool { return belongs(m.ballot, from) }

type promise struct {
	ballot  int
	entries entries
}

func (m promise) kind() int { return kindPromise }

func (m promise) lay(w *pack.Writer) {
	w.Num(ballotWidth, m.ballot)
	m.entries.lay(w)
}

func (m promise) mayGo(from, to int) bool { return belongs(m.ballot, to) && m.entries.mayBe() }

type accept struct {
	ballot, place int
	value         string
}

func (m accept) kind() int { return kindAccept }

func (m accept) lay(w *pack.Writer) {
	w.Num(ballotWidth, m.ballot)
	w.Num(placeWidth, m.place)
	layValue(w, m.value)
}

func (m accept) mayGo(from, to int) bool {
	return belongs(m.ballot, from) && isPlace(m.place) && isValue(m.value)
}

type accepted struct{ ballot, place int }

func (m accepted) kind() int { return kindAccepted }

func (m accepted) lay(w *pack.Writer) {
	w.Num(ballotWidth, m.ballot)
	w.Num(placeWidth, m.place)
}

func (m accepted) mayGo(from, to int) bool { return belongs(m.ballot, to) && isPlace(m.place) }

type holds struct {
	place int
	value string
}

func (m holds) kind() int { return kindHolds }

func (m holds) lay(w *pack.Writer) {
	w.Num(placeWidth, m.place)
	layValue(w, m.value)
}

func (m holds) mayGo(from, to int) bool { return isPlace(m.place) && isValue(m.value) }

type refuse struct{ ballot int }

func (m refuse) kind() int { return kindRefuse }

func (m refuse) lay(w *pack.Writer) { w.Num(ballotWidth, m.ballot) }

func (m refuse) mayGo(from, to int) bool { return isBallot(m.ballot) }

type ask struct{ place int }

func (m ask) kind() int { return kindAsk }

func (m ask) lay(w *pack.Writer) { w.Num(placeWidth, m.place) }

// mayGo: who holds something at all places asks for what is behind them.
func (m ask) mayGo(from, to int) bool { return m.place <= api.MaxPlaces }

// readMessage takes the fields of a kind, if there is such a one.
func readMessage(kind int, r *pack.Reader) (message, bool) {
	switch kind {
	case kindPrepare:
		return prepare{r.Num(ballotWidth)}, true
	case kindPromise:
		return promise{r.Num(ballotWidth), readEntries(r)}, true
	case kindAccept:
		return accept{r.Num(ballotWidth), r.Num(placeWidth), readValue(r)}, true
	case kindAccepted:
		return accepted{r.Num(ballotWidth), r.Num(placeWidth)}, true
	case kindHolds:
		return holds{r.Num(placeWidth), readValue(r)}, true
	case kindRefuse:
		return refuse{r.Num(ballotWidth)}, true
	case kindAsk:
		return ask{r.Num(placeWidth)}, true
	}
	return nil, false
}
