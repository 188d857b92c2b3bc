package audit

import (
	"cmp"
	"slices"
	"sync"

	"strongbox/api"
)

// notes is what was found so far, by whichever goroutine.
type notes struct {
	mutex sync.Mutex
	list  []api.Finding
}

// add notes a finding.
func (n *notes) add(kind, where int) {
	n.mutex.Lock()
	defer n.mutex.Unlock()
	n.list = append(n.list, api.Finding{Kind: kind, Where: where})
}

// told is all that was found, by kinds and numbers, each once.
func (n *notes) told() []api.Finding {
	n.mutex.Lock()
	defer n.mutex.Unlock()
	slices.SortFunc(n.list, func(a, b api.Finding) int {
		return cmp.Or(cmp.Compare(a.Kind, b.Kind), cmp.Compare(a.Where, b.Where))
	})
	// A place that two tell of wrongly was noted twice.
	return slices.Compact(n.list)
}

// together does some things at the same time, and ends when all of them have.
func together(things ...func()) {
	var all sync.WaitGroup
	for _, thing := range things {
		all.Add(1)
		go func() {
			defer all.Done()
			thing()
		}()
	}
	all.Wait()
}
