package parity

import "strongbox/api"

// besideBase is what the first shard beside those of data has for its number in what is inverted. No shard of data has so great a number, so none of the sums is 0.
const besideBase = 16

func mayBe(data, parity int) bool {
	return data >= 1 && data <= api.MaxData && parity >= 0 && parity <= api.MaxParity
}

// weight is by what the shard of data of number i is multiplied in a shard.
func weight(shard, i, data int) byte {
	switch {
	case shard >= data:
		return inverse(byte((besideBase + shard - data) ^ i))
	case shard == i:
		return 1
	default:
		return 0
	}
}

// weighted is the sum of lists, each multiplied by its weight.
func weighted(lists [][]byte, weights []byte) []byte {
	sum := make([]byte, len(lists[0]))
	for k, w := range weights {
		addMultiple(sum, lists[k], w)
	}
	return sum
}

// firstOnes are so many shards as there are of data; they say what all shards are.
type firstOnes struct {
	numbers []int // rising
	shards  [][]byte
}

// firstOf finds the first ones of a list of shards.
func firstOf(shards []string, data, parity int) (firstOnes, api.Errno) {
	if !mayBe(data, parity) || len(shards) != data+parity {
		return firstOnes{}, api.ErrParityCount
	}
	var f firstOnes
	size := 0 // of those that are there
	for n, s := range shards {
		if s == "" {
			continue
		}
		if size == 0 {
			size = len(s)
		}
		if len(s) != size || size > api.MaxSplit+lengthSize {
			return firstOnes{}, api.ErrParityForm
		}
		if len(f.numbers) < data {
			f.numbers = append(f.numbers, n)
			f.shards = append(f.shards, []byte(s))
		}
	}
	if len(f.numbers) < data {
		return firstOnes{}, api.ErrParityFew
	}
	return f, api.OK
}

// last is the number of the last of them: what is there behind it is none of them.
func (f firstOnes) last() int { return f.numbers[len(f.numbers)-1] }

// say is what they say a shard is.
func (f firstOnes) say(shard int) []byte {
	return weighted(f.shards, f.weights(shard))
}

// weights are by what each of them is multiplied in a shard: whatever the shards of data are, the sum must come to the shard, so each shard of data must count as much in the one as in the other. There is always just one such list: rows of inverses of sums of different numbers depend on one another in no choice.
func (f firstOnes) weights(shard int) []byte {
	data := len(f.numbers)
	var q equations
	for i := range data {
		row := make([]byte, 0, data+1)
		for _, n := range f.numbers {
			row = append(row, weight(n, i, data))
		}
		q = append(q, append(row, weight(shard, i, data)))
	}
	weights, _ := q.solve()
	return weights
}

// fill is shards, from the first one of all on, with the lost ones as the first ones say.
func (f firstOnes) fill(shards []string) []string {
	var all []string
	for n, s := range shards {
		if s == "" {
			s = string(f.say(n))
		}
		all = append(all, s)
	}
	return all
}
