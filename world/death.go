package world

// death is one that is to come: at which act, and which of the writes that are not flushed then stay.
type death struct {
	act  int
	bits string
}

// kept are the numbers of those that stay, of so many that are pending.
func (d death) kept(pending int) []int {
	var l []int
	for number, digit := range d.bits {
		if number < pending && digit == '1' {
			l = append(l, number)
		}
	}
	return l
}

// await puts a death behind the others in the row.
func (w *world) await(d death) {
	w.row = append(w.row, d)
	// The disk is armed with the first one already, if this is another one.
	if len(w.row) == 1 {
		w.arm()
	}
}

// arm arms the disk with the first death of the row, if there is one.
func (w *world) arm() {
	if len(w.row) > 0 {
		w.Disk.Arm(w.row[0].act)
	}
}

// revive lets a dead disk live, and opens the store, until none dies of that any more; how often the disk died.
func (w *world) revive() int {
	died := 0
	// It dies by the first death of the row alone, so there is one.
	for w.Disk.Dead() {
		first := w.row[0]
		w.row = w.row[1:]
		w.reopen(first.kept(w.Disk.Pending()))
		died++
	}
	return died
}

// reopen lets a disk, dead or not, crash and live again, and opens the store on it, if it does not die of that.
func (w *world) reopen(keep []int) {
	w.Disk.Crash(keep)
	w.arm()
	w.Open(w.Disk)
}
