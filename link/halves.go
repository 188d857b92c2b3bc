package link

import "strongbox/api"

// maxSent is how many messages an end may send.
const maxSent = 1 << 62

// sending is the half of an end that sends.
type sending struct {
	by   keys
	sent int // also the number of the next frame
}

// maySend tells whether the end is ready.
func (s *sending) maySend() bool { return s.by.areThere() }

// Send is a message as a frame.
func (s *sending) Send(message string) (string, api.Errno) {
	if !s.maySend() || s.sent >= maxSent {
		return "", api.ErrLinkState
	}
	if len(message) > api.MaxMessage {
		return "", api.ErrLinkLong
	}
	frame := s.by.frame(s.sent, message)
	s.sent++
	return frame, api.OK
}

// taking is the half of an end that takes.
type taking struct {
	by    keys // the other side's
	came  window
	taken int
}

// mayTake tells whether the end is ready.
func (t *taking) mayTake() bool { return t.by.areThere() }

// Take is the message of a frame of the other end's, once.
func (t *taking) Take(frame string) (string, api.Errno) {
	if !t.mayTake() {
		return "", api.ErrLinkState
	}
	number, message, isFrame := t.by.read(frame)
	if !isFrame {
		return "", api.ErrLinkFrame
	}
	if t.came.isOld(uint64(number)) {
		return "", api.ErrLinkOld
	}
	t.came.mark(uint64(number))
	t.taken++
	return message, api.OK
}
