package disk

import "strongbox/api"

// kind is what an act does.
type kind uint8

const (
	write kind = iota
	flush
)

// act is one that was done. It is small, for a disk keeps all that it ever did.
type act struct {
	kind   kind
	sector uint16
}

// note notes an act that is done.
func (d *Disk) note(k kind, sector int) {
	d.done = append(d.done, act{kind: k, sector: uint16(sector)})
}

// Trace tells all acts that were done.
func (d *Disk) Trace() []api.Act {
	told := make([]api.Act, len(d.done))
	for n, a := range d.done {
		told[n] = a.told()
	}
	return told
}

// told is an act as the face tells it.
func (a act) told() api.Act {
	if a.kind == flush {
		return api.Act{Kind: api.ActFlush}
	}
	return api.Act{Kind: api.ActWrite, Sector: int(a.sector)}
}
