package parity_test

import (
	"math/rand"
	"slices"
	"testing"

	"strongbox/api"
	"strongbox/parity"
)

// solves asks Solve, and holds it to an answer.
func solves(t *testing.T, square [][]int, list, want []int, refused api.Errno) {
	t.Helper()
	x, errno := parity.Solve(square, list)
	if !slices.Equal(x, want) || errno != refused {
		t.Fatalf("Solve(%v, %v) = %v, %d, want %v, %d", square, list, x, errno, want, refused)
	}
}

// times is the list that a square makes of one.
func times(square [][]int, x []int) []int {
	list := make([]int, len(square))
	for r, row := range square {
		for c, a := range row {
			list[r] ^= wantProduct(a, x[c])
		}
	}
	return list
}

// determinant is that of a square, by its first row: it is 0 just if there is no inverse.
func determinant(square [][]int) int {
	if len(square) == 0 {
		return 1
	}
	sum := 0
	for c, a := range square[0] {
		var rest [][]int
		for _, row := range square[1:] {
			rest = append(rest, slices.Delete(slices.Clone(row), c, c+1))
		}
		sum ^= wantProduct(a, determinant(rest))
	}
	return sum
}

// isSolved holds Solve of a list that the square makes of x to x, if the square has an inverse.
func isSolved(t *testing.T, square [][]int, x []int) {
	t.Helper()
	if determinant(square) == 0 {
		solves(t, square, times(square, x), nil, api.ErrParityZero)
	} else {
		solves(t, square, times(square, x), x, api.OK)
	}
}

// noughts is a square of them.
func noughts(n int) [][]int {
	square := make([][]int, n)
	for r := range square {
		square[r] = make([]int, n)
	}
	return square
}

// unit is the square that changes no list.
func unit(n int) [][]int {
	square := noughts(n)
	for r := range square {
		square[r][r] = 1
	}
	return square
}

func chanceList(r *rand.Rand, n int) []int {
	list := make([]int, n)
	for k := range list {
		list[k] = r.Intn(256)
	}
	return list
}

func chanceSquare(r *rand.Rand, n int) [][]int {
	square := noughts(n)
	for k := range square {
		square[k] = chanceList(r, n)
	}
	return square
}

// invertible is a square that has an inverse: rows with noughts ahead of their own place are added to one another from below, and are put into another order.
func invertible(r *rand.Rand, n int) [][]int {
	square := chanceSquare(r, n)
	for k, row := range square {
		clear(row[:k])
		row[k] = 1 + r.Intn(255)
	}
	for k := n - 1; k > 0; k-- {
		addRow(square, k, r.Intn(k), r.Intn(256))
	}
	r.Shuffle(n, func(i, j int) { square[i], square[j] = square[j], square[i] })
	return square
}

// addRow adds a multiple of a row to another one.
func addRow(square [][]int, to, from, factor int) {
	for c := range square[to] {
		square[to][c] ^= wantProduct(factor, square[from][c])
	}
}

func TestY2ListsOfNoneAndOne(t *testing.T) {
	solves(t, nil, nil, nil, api.OK)
	solves(t, [][]int{}, []int{}, nil, api.OK)
	for a := range 256 {
		for x := range 256 {
			isSolved(t, [][]int{{a}}, []int{x})
		}
	}
}

func TestY2ASquareOfOneNoughtHasNoInverseWhateverTheList(t *testing.T) {
	solves(t, [][]int{{0}}, []int{0}, nil, api.ErrParityZero)
	solves(t, [][]int{{0}}, []int{1}, nil, api.ErrParityZero)
}

func TestY2SquaresOfTwo(t *testing.T) {
	some := []int{0, 1, 2, 3, 142, 255}
	for _, a := range some {
		for _, b := range some {
			for _, c := range some {
				for _, d := range some {
					isSolved(t, [][]int{{a, b}, {c, d}}, []int{7, 200})
				}
			}
		}
	}
}

// All squares of noughts and ones of three rows: most of them need another order of rows, or have no inverse.
func TestY2SquaresOfThree(t *testing.T) {
	for bits := range 1 << 9 {
		square := noughts(3)
		for k := range 9 {
			square[k/3][k%3] = bits >> k & 1
		}
		isSolved(t, square, []int{3, 0, 251})
	}
}

func TestY2SquaresByChance(t *testing.T) {
	r := rand.New(rand.NewSource(2))
	for range 4000 {
		n := 1 + r.Intn(5)
		square := chanceSquare(r, n)
		for range r.Intn(2 * n) {
			square[r.Intn(n)][r.Intn(n)] = 0
		}
		isSolved(t, square, chanceList(r, n))
	}
}

func TestY2SquaresOfAllSizesThatHaveAnInverse(t *testing.T) {
	r := rand.New(rand.NewSource(3))
	for n := 1; n <= 24; n++ {
		for range 40 {
			square, x := invertible(r, n), chanceList(r, n)
			solves(t, square, times(square, x), x, api.OK)
		}
	}
}

// Each first row cannot be used at its place: the ones stand in other rows.
func TestY2RowsAreTakenInAnotherOrder(t *testing.T) {
	for _, n := range []int{2, 3, 4, 16, 23, 24} {
		for shift := range n {
			turned, back := noughts(n), noughts(n)
			var x []int
			for k := range n {
				turned[k][(k+shift)%n] = 5
				back[n-1-k][(k+shift)%n] = 7
				x = append(x, 10*k+1)
			}
			solves(t, turned, times(turned, x), x, api.OK)
			solves(t, back, times(back, x), x, api.OK)
		}
	}
}

// The row that takes the place of another one is found also where it is the last one, at each place.
func TestY2OneRowOfManyCanBeUsed(t *testing.T) {
	for c := range 23 {
		square := unit(24)
		square[c], square[23] = square[23], square[c]
		var x []int
		for k := range 24 {
			x = append(x, 255-k)
		}
		solves(t, square, times(square, x), x, api.OK)
	}
}

func TestY2SquaresWithoutInverse(t *testing.T) {
	r := rand.New(rand.NewSource(4))
	for n := 2; n <= 24; n++ {
		for range 12 {
			x := chanceList(r, n)
			one, other := r.Intn(n), r.Intn(n-1)
			if other >= one {
				other++
			}
			twice := invertible(r, n)
			twice[one] = slices.Clone(twice[other])
			multiple := invertible(r, n)
			clear(multiple[one])
			addRow(multiple, one, other, 1+r.Intn(255))
			sum := invertible(r, n)
			clear(sum[one])
			for k := range n {
				if k != one {
					addRow(sum, one, k, 1)
				}
			}
			emptyRow := invertible(r, n)
			clear(emptyRow[one])
			emptyColumn := invertible(r, n)
			for _, row := range emptyColumn {
				row[one] = 0
			}
			for _, square := range [][][]int{twice, multiple, sum, emptyRow, emptyColumn, noughts(n)} {
				solves(t, square, times(square, x), nil, api.ErrParityZero)
				solves(t, square, x, nil, api.ErrParityZero)
				solves(t, square, make([]int, n), nil, api.ErrParityZero)
			}
		}
	}
}

func TestY2SizesThatMayNotBe(t *testing.T) {
	refused := func(square [][]int, list []int) {
		t.Helper()
		solves(t, square, list, nil, api.ErrArg)
	}
	refused(unit(25), make([]int, 25))
	refused(noughts(25), make([]int, 25))
	refused(nil, make([]int, 25))
	refused(unit(26), make([]int, 26))
	refused(nil, make([]int, 1))
	refused(unit(1), nil)
	refused([][]int{nil}, nil)
	refused([][]int{nil}, []int{0})
	for _, n := range []int{1, 2, 3, 23, 24} {
		for _, square := range [][][]int{unit(n), noughts(n)} {
			list := make([]int, n)
			refused(square[:n-1], list)
			refused(append(slices.Clone(square), make([]int, n)), list)
			refused(square, list[:n-1])
			refused(square, append(slices.Clone(list), 0))
			for r := range n {
				short := slices.Clone(square)
				short[r] = short[r][:n-1]
				refused(short, list)
				long := slices.Clone(square)
				long[r] = append(slices.Clone(long[r]), 0)
				refused(long, list)
				short[r] = nil
				refused(short, list)
			}
		}
	}
}

func TestY2NumbersThatAreNoElements(t *testing.T) {
	for _, n := range []int{1, 2, 3, 24} {
		for _, base := range [][][]int{unit(n), noughts(n)} {
			for _, a := range edges {
				for k := range n {
					list := make([]int, n)
					list[k] = a
					if !isElement(a) {
						solves(t, base, list, nil, api.ErrArg)
					}
					for c := range n {
						square := slices.Clone(base)
						square[k] = slices.Clone(square[k])
						square[k][c] = a
						if !isElement(a) {
							solves(t, square, make([]int, n), nil, api.ErrArg)
						}
					}
				}
			}
		}
	}
}

func TestY2TheEndsOfElementsMayBe(t *testing.T) {
	for _, a := range []int{1, 255} {
		for _, n := range []int{1, 2, 24} {
			square, x := noughts(n), make([]int, n)
			for k := range n {
				square[k][k] = a
				x[k] = a
			}
			solves(t, square, times(square, x), x, api.OK)
			solves(t, square, make([]int, n), make([]int, n), api.OK)
		}
	}
}
