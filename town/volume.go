package town

import (
	"strconv"

	"strongbox/api"
	"strongbox/play"
)

// read reads a volume: what is mapped there, or, if it may not be read, the status by its word.
func (t *town) read(tenant, volume int) ([]api.Item, string) {
	var items []api.Item
	for block := range api.MaxBlocks {
		reply := t.Send(tenant, api.Request{Kind: api.AskRead, Volume: volume, Block: block})
		switch reply.Status {
		case api.Done:
			items = append(items, api.Item{Block: block, Data: reply.Data, Wrapped: reply.Wrapped})
		case api.Unmapped:
		default:
			return nil, play.Status(reply.Status)
		}
	}
	return items, ""
}

// bringBack makes a volume what items are, block by block; what is told of that.
func (t *town) bringBack(tenant, volume int, items []api.Item) string {
	left := items
	for block := range api.MaxBlocks {
		r := api.Request{Kind: api.AskTrim, Volume: volume, Block: block}
		if len(left) > 0 && left[0].Block == block {
			r = api.Request{Kind: api.AskUpload, Volume: volume, Block: block, Data: left[0].Data, Wrapped: left[0].Wrapped}
			left = left[1:]
		}
		status := t.Send(tenant, r).Status
		// What is to go may be gone already.
		if status != api.Done && !(r.Kind == api.AskTrim && status == api.Unmapped) {
			return play.Status(status)
		}
	}
	return "loaded " + strconv.Itoa(len(items))
}
