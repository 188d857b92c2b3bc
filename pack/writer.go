package pack

import "strongbox/api"

// Writer writes bytes; what does not fit is told at the end.
type Writer struct {
	laid  []byte
	wrong api.Errno
}

// NewWriter makes one.
func NewWriter() *Writer {
	return &Writer{}
}

// Num writes numbers, each by so many bytes, the highest first.
func (w *Writer) Num(bytes int, l ...int) {
	if !isWidth(bytes) {
		w.refuse(api.ErrArg)
		return
	}
	for _, n := range l {
		if !fits(n, bytes) {
			w.refuse(api.ErrPackRange)
			return
		}
		for place := bytes - 1; place >= 0; place-- {
			w.lay(byte(n >> (8 * place)))
		}
	}
}

// Var writes a number by as few bytes as may be.
func (w *Writer) Var(n int) {
	if n < 0 {
		w.refuse(api.ErrPackRange)
		return
	}
	for n >= base {
		w.lay(byte(n%base + base))
		n /= base
	}
	w.lay(byte(n))
}

// Raw writes bytes.
func (w *Writer) Raw(s string) {
	w.lay([]byte(s)...)
}

// Text writes a text of at most so many bytes, its length ahead.
func (w *Writer) Text(s string, most int) {
	if most < 0 {
		w.refuse(api.ErrArg)
		return
	}
	if len(s) > most {
		w.refuse(api.ErrPackLong)
		return
	}
	w.Var(len(s))
	w.Raw(s)
}

// Done is all that was written, or what did not fit first.
func (w *Writer) Done() (string, api.Errno) {
	return string(w.laid), w.wrong
}

// lay lays bytes down, unless something was wrong: then they do not matter any more.
func (w *Writer) lay(b ...byte) {
	if w.wrong == api.OK {
		w.laid = append(w.laid, b...)
	}
}

// refuse keeps what was wrong first, and no bytes: nobody will ask for them again.
func (w *Writer) refuse(errno api.Errno) {
	if w.wrong == api.OK {
		w.laid, w.wrong = nil, errno
	}
}
