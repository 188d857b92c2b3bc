package disk

import (
	"slices"
	"strings"

	"strongbox/api"
)

// cache is what a disk holds: its sectors, and the writes that do not last yet.
type cache struct {
	lasting []string    // without the pending writes
	newest  []string    // with them, so that a Read need not look through them
	pending []api.Write // in the order in which they were made
}

// holding is a cache of these sectors, which it keeps.
func holding(sectors []string) cache {
	return cache{lasting: sectors, newest: slices.Clone(sectors)}
}

// own is a text as a cache keeps it: a copy, for it may be a piece of a long one, which would be kept whole.
func own(s string) string { return strings.Clone(s) }

// Size tells how many sectors it has.
func (c *cache) Size() int { return len(c.lasting) }

// Pending tells how many writes do not last yet.
func (c *cache) Pending() int { return len(c.pending) }

// Image tells what lasts.
func (c *cache) Image() []string { return slices.Clone(c.lasting) }

// has tells whether there is such a sector.
func (c *cache) has(i int) bool { return 0 <= i && i < c.Size() }

// put writes a sector that there is.
func (c *cache) put(i int, s string) {
	c.newest[i] = s
	c.pending = append(c.pending, api.Write{Sector: i, Bytes: s})
}

// settle lets all that is pending last.
func (c *cache) settle() {
	for _, w := range c.pending {
		c.lasting[w.Sector] = w.Bytes
	}
	c.pending = nil
}

// lose lets those of the pending writes last that are kept, as though there had been no others.
func (c *cache) lose(kept []bool) {
	var left []api.Write
	for n, w := range c.pending {
		if kept[n] {
			left = append(left, w)
		}
	}
	c.pending = left
	c.settle()
	copy(c.newest, c.lasting)
}
