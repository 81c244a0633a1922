package item

import (
	"copse/api"
	"copse/bin"
	"copse/vec"
)

// fields is which fields of a request there are: a bit for each.
type fields uint

const (
	fieldId fields = 1 << iota
	fieldX
	fieldN
	fieldM
)

// has reports whether one of others is among the fields.
func (f fields) has(others fields) bool {
	return f&others != 0
}

// used is the fields that a kind of requests uses, and true; false if the kind does not exist.
func used(kind int) (fields, bool) {
	var f fields
	switch kind {
	case api.AskPut:
		f |= fieldId
		fallthrough
	case api.AskScore, api.AskWhy:
		f |= fieldX
	case api.AskAlerts:
		f |= fieldM
		fallthrough
	case api.AskAck:
		f |= fieldN
	case api.AskStats, api.AskSnap:
	default:
		return 0, false
	}
	return f, true
}

// filled is the fields of a that are not zero.
func filled(a api.Ask) fields {
	var f fields
	if a.Id != 0 {
		f |= fieldId
	}
	if len(a.X) > 0 {
		f |= fieldX
	}
	if a.N != 0 {
		f |= fieldN
	}
	if a.M != 0 {
		f |= fieldM
	}
	return f
}

// RightAsk reports whether a is valid.
func RightAsk(a api.Ask) bool {
	f, ok := used(a.Kind)
	return ok && !filled(a).has(^f) && within(0, api.MaxId, a.Id, a.N, a.M) && (len(a.X) == 0 || vec.Is(a.X, len(a.X)))
}

// PutAsk is b followed by the bytes of a; b alone if a is not valid.
func PutAsk(b []byte, a api.Ask) []byte {
	return put(b, a, RightAsk, askBytes)
}

// askBytes is the bytes of a valid request.
func askBytes(a api.Ask) []byte {
	b := numbers(a.Kind)
	f, _ := used(a.Kind)
	if f.has(fieldId) {
		b = bin.U(b, uint64(a.Id))
	}
	if f.has(fieldX) {
		b = bin.Ints(b, a.X)
	}
	if f.has(fieldN) {
		b = bin.U(b, uint64(a.N))
	}
	if f.has(fieldM) {
		b = bin.U(b, uint64(a.M))
	}
	return b
}

// GetAsk reads a request.
func GetAsk(r *bin.Reader) api.Ask {
	a := api.Ask{Kind: r.N(api.MaxId)}
	f, ok := used(a.Kind)
	if !ok {
		r.Fail(api.ErrForm)
		return api.Ask{}
	}
	if f.has(fieldId) {
		a.Id = r.N(api.MaxId)
	}
	if f.has(fieldX) {
		a.X = r.Ints(api.MaxDim)
	}
	if f.has(fieldN) {
		a.N = r.N(api.MaxId)
	}
	if f.has(fieldM) {
		a.M = r.N(api.MaxId)
	}
	return checked(r, a, RightAsk)
}
