package parity

import "strongbox/api"

// maxUnknown is for how many elements equations may be solved.
const maxUnknown = api.MaxData + api.MaxParity

// equations have a row for each unknown element: by what each of them is multiplied, and at its end the sum of these products.
type equations [][]byte

// newEquations are those of a square and a list, as memory of their own.
func newEquations(square [][]int, list []int) (equations, api.Errno) {
	if len(list) > maxUnknown || len(square) != len(list) {
		return nil, api.ErrArg
	}
	var q equations
	for r, numbers := range square {
		if len(numbers) != len(list) {
			return nil, api.ErrArg
		}
		row := make([]byte, 0, len(list)+1)
		for _, a := range numbers {
			if !isElement(a) {
				return nil, api.ErrArg
			}
			row = append(row, byte(a))
		}
		if !isElement(list[r]) {
			return nil, api.ErrArg
		}
		q = append(q, append(row, byte(list[r])))
	}
	return q, api.OK
}

// solve finds the unknown elements, if the rows allow just one list of them. The rows are changed.
func (q equations) solve() ([]byte, bool) {
unknown:
	for c := range q {
		for r := c; r < len(q); r++ {
			if q[r][c] != 0 {
				q[c], q[r] = q[r], q[c]
				q.isolate(c)
				continue unknown
			}
		}
		return nil, false
	}
	found := make([]byte, len(q))
	for c, row := range q {
		found[c] = row[len(q)]
	}
	return found, true
}

// isolate makes row c the only one that has the unknown element c, and has it once. It must have it.
func (q equations) isolate(c int) {
	factor := inverse(q[c][c])
	for k, a := range q[c] {
		q[c][k] = product(factor, a)
	}
	for r, row := range q {
		if r != c {
			addMultiple(row, q[c], row[c])
		}
	}
}
