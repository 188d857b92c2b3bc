package pack

import (
	"errors"
	"math"
	"strconv"

	"strongbox/api"
)

// Reader reads bytes; what is wrong is told at the end.
type Reader struct {
	rest  string
	taken int
	wrong api.Errno
}

// giveUp is what a Reader's call throws when something is wrong with it.
type giveUp struct {
	errno api.Errno
}

// Error tells it by its number.
func (g giveUp) Error() string {
	return "pack: error " + strconv.Itoa(int(g.errno))
}

// NewReader makes one.
func NewReader(s string) *Reader {
	return &Reader{rest: s}
}

// Num reads a number of so many bytes.
func (r *Reader) Num(bytes int) int {
	if r.wrong != api.OK {
		return 0
	}
	before := r.taken
	defer func() { r.settle(before, recover()) }()
	if !isWidth(bytes) {
		panic(giveUp{api.ErrArg})
	}
	return r.number(bytes)
}

// Var reads a number.
func (r *Reader) Var() int {
	if r.wrong != api.OK {
		return 0
	}
	before := r.taken
	defer func() { r.settle(before, recover()) }()
	return r.digits()
}

// Raw reads n bytes.
func (r *Reader) Raw(n int) string {
	if r.wrong != api.OK {
		return ""
	}
	before := r.taken
	defer func() { r.settle(before, recover()) }()
	if n < 0 {
		panic(giveUp{api.ErrArg})
	}
	return r.take(n)
}

// Text reads a text of at most so many bytes.
func (r *Reader) Text(most int) string {
	if r.wrong != api.OK {
		return ""
	}
	before := r.taken
	defer func() { r.settle(before, recover()) }()
	if most < 0 {
		panic(giveUp{api.ErrArg})
	}
	n := r.digits()
	if n > most {
		panic(giveUp{api.ErrPackLong})
	}
	return r.take(n)
}

// Done tells what was wrong first, and where; also that bytes are left.
func (r *Reader) Done() (api.Errno, int) {
	if r.wrong == api.OK && len(r.rest) > 0 {
		return api.ErrPackMore, r.taken
	}
	return r.wrong, r.taken
}

// take takes n bytes, which are not below 0, or gives up.
func (r *Reader) take(n int) string {
	if n > len(r.rest) {
		panic(giveUp{api.ErrPackShort})
	}
	s := r.rest[:n]
	r.rest = r.rest[n:]
	r.taken += n
	return s
}

// number takes a number of so many bytes, which must be a width, or gives up.
func (r *Reader) number(bytes int) int {
	var n uint64
	for _, b := range []byte(r.take(bytes)) {
		n = n<<8 | uint64(b)
	}
	if n > math.MaxInt {
		panic(giveUp{api.ErrPackRange})
	}
	return int(n)
}

// digits takes a number by its digits, or gives up.
func (r *Reader) digits() int {
	n := 0
	for i := range maxDigits {
		b := r.number(1)
		n |= (b % base) << (baseBits * i)
		if b == 0 && i > 0 {
			panic(giveUp{api.ErrPackForm})
		}
		if b < base {
			return n
		}
	}
	panic(giveUp{api.ErrPackRange})
}

// settle ends a call: if it gave up, it has taken nothing, and what was wrong is all that is kept.
func (r *Reader) settle(before int, thrown any) {
	if thrown == nil {
		return
	}
	if err, ok := thrown.(error); ok {
		var gave giveUp
		if errors.As(err, &gave) {
			*r = Reader{taken: before, wrong: gave.errno}
			return
		}
	}
	// What no Reader threw is a fault of the program, which is not to be hidden.
	panic(thrown)
}
