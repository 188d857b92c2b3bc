package town

import (
	"strconv"

	"strongbox/api"
	"strongbox/disk"
	"strongbox/replica"
)

// shipped is where images go: in the lines in which they do, what is done, and what is told.
type shipped interface {
	// note notes an image; where images go then.
	note(image []string) shipped
	// ship sends what is not confirmed, frame by frame as digits say.
	ship(digits string) string
	// promote makes a disk of the image that has come, and tells its number; nil, if none has.
	promote() (*disk.Disk, int)
}

// promote lets what was shipped be the store.
func (t *town) promote() string {
	d, number := t.shipped.promote()
	if d == nil {
		return "none"
	}
	t.Open(d)
	t.shipped = nobody{}
	return "promoted " + strconv.Itoa(number)
}

// nobody is where images go until one is noted.
type nobody struct{}

func (nobody) note(image []string) shipped {
	// It is not refused: an image that a disk tells is one.
	p, _ := replica.NewPrimary(image)
	return &pair{primary: p}
}

func (nobody) ship(string) string { return "nobody" }

func (nobody) promote() (*disk.Disk, int) { return nil, 0 }

// pair is a primary, and the replica to which its images go.
type pair struct {
	primary *replica.Primary
	replica *replica.Replica // nil until something is shipped
}

func (p *pair) note(image []string) shipped {
	// Nor is this: all disks of a town are of one size, and a script has few lines.
	p.primary.Note(image)
	return p
}

func (p *pair) ship(digits string) string {
	if p.replica == nil {
		p.replica = replica.NewReplica()
	}
	frames := p.primary.Frames()
	var late []string
	for i, digit := range digits[:min(len(digits), len(frames))] {
		switch digit {
		case '2':
			p.arrive(frames[i])
			// It comes once more, as one that comes once does.
			fallthrough
		case '1':
			p.arrive(frames[i])
		case '3':
			p.replica.Take(frames[i])
		case '4':
			late = append(late, frames[i])
		}
	}
	for _, frame := range late {
		p.arrive(frame)
	}
	return "replica " + p.number() + " left " + strconv.Itoa(len(p.primary.Frames()))
}

// arrive lets a frame come to the replica, and its word to the primary. What they refuse has no effect.
func (p *pair) arrive(frame string) {
	if word, _ := p.replica.Take(frame); word != "" {
		p.primary.Confirm(word)
	}
}

// number is what is told of which image the replica has.
func (p *pair) number() string {
	n, errno := p.replica.Number()
	if errno != api.OK {
		return "none"
	}
	return strconv.Itoa(n)
}

func (p *pair) promote() (*disk.Disk, int) {
	if p.replica == nil {
		return nil, 0
	}
	number, errno := p.replica.Number()
	if errno != api.OK {
		return nil, 0
	}
	// It has an image, so this is not refused.
	d, _ := p.replica.Promote()
	return d, number
}
