package town

import (
	"strconv"

	"strongbox/api"
	"strongbox/hash"
	"strongbox/link"
	"strongbox/play"
)

// The sides of a link.
const (
	tenantSide = 0
	storeSide  = 1
)

// talk is what a tenant says to the store: in the line in which it says something, what is done, and what is told.
type talk interface {
	// say says a message; by the signs, what comes of its frame.
	say(message, signs string) string
}

// newTalk is one of a tenant's, in which nothing was said.
func (t *town) newTalk(tenant int) talk {
	key := hash.Sum("link " + strconv.Itoa(tenant))
	l := &linked{tenant: t.newEnd(key, tenantSide), store: t.newEnd(key, storeSide)}
	// Each is the other side by that key, and new.
	l.tenant.Greet(l.store.Hello())
	l.store.Greet(l.tenant.Hello())
	return l
}

// newEnd is the town's next end of a link.
func (t *town) newEnd(key string, side int) *link.End {
	t.ends++
	// It is not refused: a digest is as long as a key.
	e, _ := link.New(key, side, hash.Sum("nonce " + strconv.Itoa(t.ends))[:api.DrawSize])
	return e
}

// silence is of a tenant who has no link.
type silence struct{}

func (silence) say(string, string) string { return "none" }

// linked are the two ends of a link.
type linked struct {
	tenant, store *link.End
	late          []string // frames that come when something is said next
}

func (l *linked) say(message, signs string) string {
	var heard []string
	come := func(frame string) {
		if m, errno := l.store.Take(frame); errno == api.OK {
			heard = append(heard, m)
		}
	}
	for _, frame := range l.late {
		come(frame)
	}
	l.late = nil
	// It is not refused: no word is too long, nor does a script say so many.
	frame, _ := l.tenant.Send(message)
	for _, sign := range signs {
		switch sign {
		case '2':
			come(frame)
			// It comes once more, as one that comes once does.
			fallthrough
		case '1':
			come(frame)
		case 'x':
			come(spoilt(frame))
		case '4':
			l.late = append(l.late, frame)
		}
	}
	return play.List(heard)
}

// spoilt is a frame with the lowest bit of its last byte turned.
func spoilt(frame string) string {
	last := len(frame) - 1
	return frame[:last] + string([]byte{frame[last] ^ 1})
}
