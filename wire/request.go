package wire

import (
	"strongbox/api"
	"strongbox/pack"
)

// isKind tells whether there is such a kind of requests.
func isKind(kind int) bool {
	return api.AskAddTenant <= kind && kind <= api.AskTrim
}

// requestFields are the fields of a kind of requests, in their order.
func requestFields(kind int) []field {
	f := allFields()
	switch kind {
	case api.AskAddTenant:
		return []field{f.tenant, f.quota}
	case api.AskRemoveTenant, api.AskTenant:
		return []field{f.tenant}
	case api.AskAddVolume, api.AskRemoveVolume:
		return []field{f.volume}
	case api.AskOffer:
		return []field{f.volume, f.block, f.digest, f.wrapped}
	case api.AskProve:
		return []field{f.nonce, f.sample}
	case api.AskUpload:
		return []field{f.volume, f.block, f.wrapped, f.data}
	case api.AskRead, api.AskTrim:
		return []field{f.volume, f.block}
	}
	return nil
}

// layRequest lays the fields of a request down; false, if one may not be what it is, or one that its kind does not have is there.
func layRequest(w *pack.Writer, r api.Request) bool {
	kind := r.Kind
	for _, f := range requestFields(kind) {
		var p part
		r, p = exchangeInRequest(r, f, part{})
		if !f.lay(w, p) {
			return false
		}
	}
	// All that its kind has was taken out of it: nothing else may be left.
	return r == api.Request{Kind: kind}
}

// takeRequest takes the fields of a request; false, if one may not be what it is.
func takeRequest(in *pack.Reader, kind int) (api.Request, bool) {
	r := api.Request{Kind: kind}
	for _, f := range requestFields(kind) {
		p, isRight := f.take(in)
		if !isRight {
			return api.Request{}, false
		}
		r, _ = exchangeInRequest(r, f, p)
	}
	return r, true
}

// exchangeInRequest is a request with another part in the stead of the one that belongs to a field, and that one.
func exchangeInRequest(r api.Request, f field, p part) (api.Request, part) {
	var was part
	switch f.(type) {
	case tenant:
		was.number, r.Tenant = r.Tenant, p.number
	case quota:
		was.number, r.Quota = r.Quota, p.number
	case volume:
		was.number, r.Volume = r.Volume, p.number
	case block:
		was.number, r.Block = r.Block, p.number
	case nonce:
		was.number, r.Nonce = r.Nonce, p.number
	case digest:
		was.text, r.Digest = r.Digest, p.text
	case wrapped:
		was.text, r.Wrapped = r.Wrapped, p.text
	case sample:
		was.text, r.Sample = r.Sample, p.text
	case data:
		was.text, r.Data = r.Data, p.text
	}
	return r, was
}
