package wire

import (
	"strongbox/api"
	"strongbox/pack"
)

// noRequest is the kind that a reply to what is no request is one to.
const noRequest = 0

// isReplyKind tells whether there are replies to that kind.
func isReplyKind(kind int) bool {
	return kind == noRequest || isKind(kind)
}

// isStatus tells whether there is such a status.
func isStatus(s api.Status) bool {
	return api.Done <= s && s <= api.Unmapped
}

// replyFields are the fields of a reply to a kind, in their order.
func replyFields(kind int) []field {
	f := allFields()
	switch kind {
	case api.AskTenant:
		return []field{f.quota, f.charge, f.volumes}
	case api.AskVolumes:
		return []field{f.volumes}
	case api.AskStat:
		return []field{f.quota, f.charge}
	case api.AskOffer:
		return []field{f.nonce, f.places}
	case api.AskRead:
		return []field{f.wrapped, f.data}
	}
	return nil
}

// isFull tells whether a reply to a kind that has this status has its fields.
func isFull(kind int, status api.Status) bool {
	if kind == api.AskOffer {
		return status == api.Challenge
	}
	return status == api.Done
}

// layReply lays the fields of a reply down; false, if one may not be what it is, or one that the reply does not have is there.
func layReply(w *pack.Writer, kind int, r api.Reply) bool {
	fields := replyFields(kind)
	if !isFull(kind, r.Status) {
		w.Raw(noughts(fieldsSize(fields)))
		return isBare(r)
	}
	for _, f := range fields {
		var p part
		r, p = exchangeInReply(r, f, part{})
		if !f.lay(w, p) {
			return false
		}
	}
	// All that it has was taken out of it: nothing else may be left.
	return isBare(r)
}

// takeReply takes the fields of a reply; false, if one may not be what it is, or is there though the reply is not full.
func takeReply(in *pack.Reader, kind int, status api.Status) (api.Reply, bool) {
	fields := replyFields(kind)
	r := api.Reply{Status: status}
	if !isFull(kind, status) {
		n := fieldsSize(fields)
		return r, in.Raw(n) == noughts(n)
	}
	for _, f := range fields {
		p, isRight := f.take(in)
		if !isRight {
			return api.Reply{}, false
		}
		r, _ = exchangeInReply(r, f, p)
	}
	return r, true
}

// isBare tells whether a reply has nothing but its status.
func isBare(r api.Reply) bool {
	return r.Quota == 0 && r.Charge == 0 && len(r.Volumes) == 0 && r.Nonce == 0 && len(r.Places) == 0 && r.Wrapped == "" && r.Data == ""
}

// exchangeInReply is a reply with another part in the stead of the one that belongs to a field, and that one.
func exchangeInReply(r api.Reply, f field, p part) (api.Reply, part) {
	var was part
	switch f.(type) {
	case quota:
		was.number, r.Quota = r.Quota, p.number
	case charge:
		was.number, r.Charge = r.Charge, p.number
	case volumes:
		was.list, r.Volumes = r.Volumes, p.list
	case nonce:
		was.number, r.Nonce = r.Nonce, p.number
	case places:
		was.list, r.Places = r.Places, p.list
	case wrapped:
		was.text, r.Wrapped = r.Wrapped, p.text
	case data:
		was.text, r.Data = r.Data, p.text
	}
	return r, was
}
