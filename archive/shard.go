package archive

import (
	"strongbox/api"
	"strongbox/hash"
	"strongbox/pack"
	"strongbox/parity"
)

// What a shard begins with, and the bytes of one whose part is empty.
const (
	shardLetters = "SH"
	shardSize    = len(shardLetters) + 3*smallWidth + api.DigestSize + checkSize
)

// shardText is a shard as bytes.
func shardText(x api.Shard) string {
	w := pack.NewWriter()
	w.Raw(shardLetters)
	w.Num(smallWidth, x.Number, x.Data, x.Parity)
	w.Raw(x.Of)
	w.Raw(x.Bytes)
	s, _ := w.Done()
	return withCheck(s)
}

// parseShard takes a shard apart.
func parseShard(s string) (api.Shard, error) {
	r := readChecked(s)
	letters := r.Raw(len(shardLetters))
	number, data, beside := r.Num(smallWidth), r.Num(smallWidth), r.Num(smallWidth)
	x := api.Shard{Number: number, Data: data, Parity: beside, Of: r.Raw(api.DigestSize), Bytes: r.Raw(len(s) - shardSize)}
	if errno, _ := r.Done(); errno != api.OK || letters != shardLetters || !isNumbered(x) {
		return api.Shard{}, fault(api.ErrArchiveShard)
	}
	return x, nil
}

// isNumbered tells whether a shard's numbers may be.
func isNumbered(x api.Shard) bool {
	return 1 <= x.Data && x.Data <= api.MaxData && x.Parity <= api.MaxParity && x.Number < x.Data+x.Parity
}

// split is an archive as shards.
func split(s string, data, beside int) ([]string, error) {
	if _, err := parse(s); err != nil {
		return nil, err
	}
	parts, errno := parity.Split(s, data, beside)
	if errno != api.OK {
		return nil, fault(errno)
	}
	var shards []string
	of := hash.Sum(s)
	for number, part := range parts {
		shards = append(shards, shardText(api.Shard{Number: number, Data: data, Parity: beside, Of: of, Bytes: part}))
	}
	return shards, nil
}

// join is the archive of shards.
func join(shards []string) (string, error) {
	first, parts, err := gather(shards)
	if err != nil {
		return "", err
	}
	// Join refuses too few of them, and none at all, too.
	s, errno := parity.Join(parts, first.Data, first.Parity)
	if errno != api.OK || hash.Sum(s) != first.Of {
		return "", fault(api.ErrArchiveShard)
	}
	if _, err := parse(s); err != nil {
		return "", fault(api.ErrArchiveShard)
	}
	return s, nil
}

// gather is the first of shards that belong together, and the parts of all by their numbers.
func gather(shards []string) (api.Shard, []string, error) {
	var first api.Shard
	var parts []string
	for k, s := range shards {
		x, err := parseShard(s)
		if err != nil {
			return api.Shard{}, nil, err
		}
		if k == 0 {
			first, parts = x, make([]string, x.Data+x.Parity)
		}
		if !belong(first, x) || parts[x.Number] != "" && parts[x.Number] != x.Bytes {
			return api.Shard{}, nil, fault(api.ErrArchiveShard)
		}
		parts[x.Number] = x.Bytes
	}
	return first, parts, nil
}

// belong tells whether two shards may be of one archive.
func belong(x, y api.Shard) bool {
	return x.Data == y.Data && x.Parity == y.Parity && x.Of == y.Of && len(x.Bytes) == len(y.Bytes)
}
