package client

import (
	"sync"

	"strongbox/api"
	"strongbox/seal"
)

// maxSealers is how many seal at the same time, at most: more than there are processors are of no use.
const maxSealers = 8

// SealAll is some blocks as chunks, and their keys, in their order.
func (c *Client) SealAll(plains []string) ([]string, []string, api.Errno) {
	if !c.hasKeys() {
		return nil, nil, api.ErrSealKey
	}
	// All are looked at ahead of the first one being sealed: so no sealer meets one that is refused.
	for _, plain := range plains {
		if len(plain) != api.SectorSize {
			return nil, nil, api.ErrSealSize
		}
	}
	chunks, keys := make([]string, len(plains)), make([]string, len(plains))
	jobs := make(chan int)
	var sealers sync.WaitGroup
	for range min(len(plains), maxSealers) {
		sealers.Add(1)
		go func() {
			defer sealers.Done()
			for place := range jobs {
				// A place comes out of the channel once, so no two write there.
				chunks[place], keys[place], _ = seal.Seal(c.domain, plains[place])
			}
		}()
	}
	for place := range plains {
		jobs <- place
	}
	close(jobs)
	sealers.Wait()
	return chunks, keys, api.OK
}
