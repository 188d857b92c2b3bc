package journal

import (
	"slices"
	"strings"

	"strongbox/api"
)

// isFree tells whether the journal of a disk of so many sectors may write this one.
func isFree(sector, size int) bool {
	return api.FirstFree <= sector && sector < size
}

// refusal is why a list may not be committed to a disk of so many sectors.
func refusal(l []api.Write, size int) api.Errno {
	if len(l) > api.JournalRecords {
		return api.ErrJournalMany
	}
	if slices.ContainsFunc(l, func(w api.Write) bool { return !isFree(w.Sector, size) }) {
		return api.ErrJournalPlace
	}
	sectors := sectorsOf(l)
	slices.Sort(sectors)
	if len(slices.Compact(sectors)) < len(l) {
		return api.ErrJournalTwice
	}
	if slices.ContainsFunc(l, func(w api.Write) bool { return len(w.Bytes) != api.SectorSize }) {
		return api.ErrDiskBytes
	}
	return api.OK
}

// sectorsOf are the sectors of a list.
func sectorsOf(l []api.Write) []int {
	sectors := make([]int, len(l))
	for i, w := range l {
		sectors[i] = w.Sector
	}
	return sectors
}

// filledUp is a list with writes of the fill behind it, so that each commit has as many.
func filledUp(l []api.Write) []api.Write {
	blank := api.Write{Sector: api.FillSector, Bytes: strings.Repeat("\x00", api.SectorSize)}
	records := slices.Repeat([]api.Write{blank}, api.JournalRecords)
	copy(records, l)
	return records
}

// recordAt is the sector of the i-th record.
func recordAt(i int) int { return api.JournalAt + 1 + i }

// asRecords are the writes of a list's bytes to the records.
func asRecords(l []api.Write) []api.Write {
	records := make([]api.Write, len(l))
	for i, w := range l {
		records[i] = api.Write{Sector: recordAt(i), Bytes: w.Bytes}
	}
	return records
}
