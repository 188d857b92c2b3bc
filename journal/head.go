package journal

import (
	"strongbox/api"
	"strongbox/pack"
)

// What a head's body begins with, and the bytes of that and of where a record belongs.
const (
	markClear = 0
	markSet   = 1
	markWidth = 1
	homeWidth = 4
)

// head is what the journal's own sector says.
type head struct {
	number uint32 // of the last commit
	homes  []int  // where each record belongs; none, if it is clear
}

// clearHead is one behind a commit of this number.
func clearHead(number uint32) head {
	return head{number: number}
}

// setHead is one while a commit of this number has these records to be written.
func setHead(number uint32, records []api.Write) head {
	return head{number: number, homes: sectorsOf(records)}
}

// isSet tells whether there is something to be done.
func (h head) isSet() bool { return len(h.homes) > 0 }

// write is the write of a head to its sector.
func (h head) write() api.Write {
	w := pack.NewWriter()
	if h.isSet() {
		w.Num(markWidth, markSet)
		w.Num(homeWidth, h.homes...)
	} else {
		w.Num(markWidth, markClear)
	}
	// None of the two can be refused: each number fits, and the body is shorter than a page's may be.
	body, _ := w.Done()
	sector, _ := pack.MakePage(api.Page{Kind: api.PageJournal, Number: int(h.number), Body: body})
	return api.Write{Sector: api.JournalAt, Bytes: sector}
}

// readHead is the head that a sector is, on a disk of so many sectors; false, if it is neither clear nor set.
func readHead(sector string, size int) (head, bool) {
	page, errno := pack.ParsePage(sector)
	if errno != api.OK || page.Kind != api.PageJournal {
		return head{}, false
	}
	h := clearHead(uint32(page.Number))
	r := pack.NewReader(page.Body)
	mark := r.Num(markWidth)
	if mark == markSet {
		h.homes = readHomes(r, size)
	}
	// A page without a body reads as a mark that is clear, but its Reader says that the bytes end.
	errno, _ = r.Done()
	whole := mark == markClear || len(h.homes) == api.JournalRecords
	return h, errno == api.OK && whole
}

// readHomes reads where the records belong, up to the first place where none may.
func readHomes(r *pack.Reader, size int) []int {
	var l []int
reading:
	for range api.JournalRecords {
		home := r.Num(homeWidth)
		if home != api.FillSector {
			if !isFree(home, size) {
				break reading
			}
			for _, ahead := range l {
				if ahead == home {
					break reading
				}
			}
		}
		l = append(l, home)
	}
	return l
}
