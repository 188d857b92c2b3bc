package parity_test

import (
	"math/rand"
	"slices"
	"strings"
	"sync"
	"testing"

	"strongbox/api"
	"strongbox/parity"
)

// roomy is a list with spare room, in which something else stands.
func roomy[T any](l []T, other T) []T {
	return append(slices.Clone(l), other, other, other)[:len(l)]
}

// roomySquare is a square in which each row, and the list of rows, has spare room.
func roomySquare(square [][]int) [][]int {
	var rows [][]int
	for _, row := range square {
		rows = append(rows, roomy(row, 77))
	}
	return roomy(rows, []int{88, 88, 88})
}

// copied is a list of rows, and what stands in their spare room and in its own.
func copied(square [][]int) [][]int {
	var rows [][]int
	for _, row := range square[:cap(square)] {
		rows = append(rows, slices.Clone(row[:cap(row)]))
	}
	return rows
}

// overwrite writes something into a list, and into its spare room.
func overwrite[T any](l []T, something T) {
	l = l[:cap(l)]
	for k := range l {
		l[k] = something
	}
}

func TestY7SquaresAndListsAreNotWrittenInto(t *testing.T) {
	r := rand.New(rand.NewSource(19))
	for n := range 26 {
		for _, square := range [][][]int{chanceSquare(r, n), noughts(n), unit(n), invertible(r, n)} {
			rows, list := roomySquare(square), roomy(chanceList(r, n), 77)
			wasRows, wasList, order := copied(rows), slices.Clone(list[:cap(list)]), slices.Clone(rows)
			first, _ := parity.Solve(rows, list)
			if !slices.EqualFunc(copied(rows), wasRows, slices.Equal) || !slices.Equal(list[:cap(list)], wasList) {
				t.Fatalf("of %d: %v, %v, were %v, %v", n, copied(rows), list[:cap(list)], wasRows, wasList)
			}
			// Rows that are alike must not be swapped either.
			for k := range rows {
				if &rows[k][0] != &order[k][0] {
					t.Fatalf("row %d is another one", k)
				}
			}
			second, _ := parity.Solve(rows, list)
			if !slices.Equal(first, second) {
				t.Fatalf("of %d: %v, then %v", n, first, second)
			}
		}
	}
}

// Rows may be pieces of one memory, or one row several times.
func TestY7RowsThatShareMemory(t *testing.T) {
	memory := []int{0, 2, 1, 1, 77}
	solves(t, [][]int{memory[0:2], memory[2:4]}, []int{29, 129}, []int{1, 128}, api.OK)
	row := []int{1, 0}
	solves(t, [][]int{row, row}, row, nil, api.ErrParityZero)
	solves(t, [][]int{{1, 0}, row}, row, nil, api.ErrParityZero)
	solves(t, [][]int{row, {0, 1}}, row, []int{1, 0}, api.OK)
	overlapping := []int{0, 1, 0}
	solves(t, [][]int{overlapping[0:2], overlapping[1:3]}, overlapping[:2], []int{1, 0}, api.OK)
	if !slices.Equal(memory, []int{0, 2, 1, 1, 77}) || !slices.Equal(row, []int{1, 0}) || !slices.Equal(overlapping, []int{0, 1, 0}) {
		t.Errorf("now %v, %v, %v", memory, row, overlapping)
	}
}

func TestY7SolutionsAreNewMemory(t *testing.T) {
	for _, n := range []int{0, 1, 2, 24} {
		square, list := unit(n), chanceList(rand.New(rand.NewSource(20)), n)
		want := slices.Clone(list)
		one, _ := parity.Solve(square, list)
		other, _ := parity.Solve(square, list)
		overwrite(one, -9)
		if !slices.Equal(other, want) || !slices.Equal(list, want) || !slices.EqualFunc(square, unit(n), slices.Equal) {
			t.Errorf("of %d: %v, %v, %v", n, other, list, square)
		}
		overwrite(list, -9)
		if !slices.Equal(other, want) {
			t.Errorf("of %d: the list is kept", n)
		}
		solves(t, square, want, want, api.OK)
	}
}

func TestY7ShardsAreNotWrittenInto(t *testing.T) {
	all := wantShards("some text", 3, 3)
	for lost := range 1 << 6 {
		for _, counts := range [][2]int{{3, 3}, {2, 4}, {3, 2}, {0, 6}} {
			for _, shards := range [][]string{all, with(all, 5, "another text"), with(all, 5, spoilt(all[5], 0, 1))} {
				list := roomy(choice(shards, lost), "spare")
				was := slices.Clone(list[:cap(list)])
				parity.Join(list, counts[0], counts[1])
				parity.Rebuild(list, counts[0], counts[1])
				parity.Wrong(list, counts[0], counts[1])
				if !slices.Equal(list[:cap(list)], was) {
					t.Fatalf("of %d: %q, was %q", lost, list[:cap(list)], was)
				}
			}
		}
	}
}

func TestY7ShardsThatComeOutAreNewMemory(t *testing.T) {
	for _, c := range [][2]int{{1, 0}, {1, 1}, {3, 0}, {3, 3}, {16, 8}} {
		data, beside := c[0], c[1]
		want := wantShards("some text", data, beside)
		one, _ := parity.Split("some text", data, beside)
		other, _ := parity.Split("some text", data, beside)
		overwrite(one, "overwritten")
		if !slices.Equal(other, want) {
			t.Errorf("Split by %d and %d: %q", data, beside, other)
		}
		for lost := range 1 + min(1, beside) {
			handed := choice(want, lost<<(data+beside-1))
			was := slices.Clone(handed)
			one, _ = parity.Rebuild(handed, data, beside)
			other, _ = parity.Rebuild(handed, data, beside)
			overwrite(one, "overwritten")
			if !slices.Equal(other, want) || !slices.Equal(handed, was) {
				t.Errorf("Rebuild by %d and %d: %q, of %q", data, beside, other, handed)
			}
			overwrite(handed, "overwritten")
			if !slices.Equal(other, want) {
				t.Errorf("Rebuild by %d and %d keeps its list", data, beside)
			}
			isWhole(t, was, data, beside, "some text", want)
		}
	}
}

// A list that is handed in again with other shards is looked at anew.
func TestY7NothingIsKept(t *testing.T) {
	list := make([]string, 5)
	for _, s := range []string{"one", "two", "", "three", "one"} {
		all := wantShards(s, 3, 2)
		for lost := range 1 << 5 {
			copy(list, choice(all, lost))
			holds(t, list, 3, 2)
		}
	}
}

// Any numbers and texts: each call ends, and answers what the words say.
func TestY7AnythingThatIsHandedIn(t *testing.T) {
	r := rand.New(rand.NewSource(21))
	for range 6000 {
		data, beside := r.Intn(19)-1, r.Intn(11)-1
		length := max(0, data+beside)
		if r.Intn(8) == 0 {
			length = r.Intn(27)
		}
		shards := make([]string, length)
		size := 1 + r.Intn(6)
		for k := range shards {
			switch r.Intn(40) {
			case 0:
				shards[k] = chanceText(r, r.Intn(9))
			case 1, 2, 3, 4, 5, 6:
			case 7, 8, 9, 10, 11, 12, 13, 14:
				shards[k] = strings.Repeat("\x00", size)
			default:
				shards[k] = chanceText(r, size)
			}
		}
		holds(t, shards, data, beside)
	}
}

func TestY7ManyCallsAtOnce(t *testing.T) {
	square, x := invertible(rand.New(rand.NewSource(22)), 24), chanceList(rand.New(rand.NewSource(23)), 24)
	list := times(square, x)
	all := wantShards("a text for all", 5, 4)
	left := without(all, 0, 3, 6)
	var group sync.WaitGroup
	for k := range 32 {
		group.Go(func() {
			for range 40 {
				own := strings.Repeat("own", k)
				shards, split := parity.Split(own, 1+k%16, k%9)
				text, joined := parity.Join(shards, 1+k%16, k%9)
				if split != api.OK || text != own || joined != api.OK {
					t.Errorf("Join = %q, %d, want %q", text, joined, own)
				}
				text, _ = parity.Join(left, 5, 4)
				rebuilt, _ := parity.Rebuild(left, 5, 4)
				wrong, _ := parity.Wrong(left, 5, 4)
				solution, _ := parity.Solve(square, list)
				product, _ := parity.Mul(k, 200)
				inverse, _ := parity.Inv(k + 1)
				if text != "a text for all" || !slices.Equal(rebuilt, all) || wrong || !slices.Equal(solution, x) || product != wantProduct(k, 200) || inverse != wantInverse(k+1) {
					t.Errorf("%q, %q, %v, %v, %d, %d", text, rebuilt, wrong, solution, product, inverse)
				}
			}
		})
	}
	group.Wait()
}
