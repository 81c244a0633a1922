package state

import (
	"copse/api"
	"copse/bin"
	"copse/item"
	"copse/wood"
)

// Put is the bytes of s; ErrState if it is not valid.
func Put(s api.State) ([]byte, api.Errno) {
	if !Right(s) {
		return nil, api.ErrState
	}
	b := item.PutConf(nil, s.Conf)
	for _, n := range [...]int{s.Count, s.Last, s.Seq} {
		b = bin.U(b, uint64(n))
	}
	for _, e := range s.Window {
		b = append(b, item.PutSeen(nil, e, s.Conf.Dim)...)
	}
	b = append(b, wood.PutForest(nil, s.Forest)...)
	b = bin.U(b, uint64(len(s.Alerts)))
	for _, a := range s.Alerts {
		b = append(b, item.PutAlert(nil, a)...)
	}
	return b, api.OK
}

// read is the state of which r has the bytes, if the reader has not failed, valid or not.
func read(r *bin.Reader) view {
	var v view
	v.Conf = item.GetConf(r)
	v.Count = r.N(api.MaxCount)
	v.Last = r.N(api.MaxCount)
	v.Seq = r.N(api.MaxCount)
	for range v.windowSize() {
		v.Window = append(v.Window, item.GetSeen(r, v.Conf.Dim))
	}
	v.Forest = wood.GetForest(r)
	for range r.N(api.MaxKeep) {
		v.Alerts = append(v.Alerts, item.GetAlert(r))
	}
	r.End()
	return v
}

// Get is the state of which b is the bytes; the error of reading them, ErrState if it is not valid.
func Get(b []byte) (api.State, api.Errno) {
	r := bin.From(b)
	v := read(r)
	if e := r.Err(); e != api.OK {
		return api.State{}, e
	}
	if !v.right() {
		return api.State{}, api.ErrState
	}
	return v.State, api.OK
}
