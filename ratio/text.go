package ratio

import (
	"strconv"
	"strings"

	"copse/api"
	"copse/wide"
)

// Text is the digits of P, and, unless Q is 1, a slash and the digits of Q; empty if r is not valid.
func Text(r api.Ratio) string {
	if !Is(r) {
		return ""
	}
	if r.Q == 1 {
		return strconv.Itoa(r.P)
	}
	return strconv.Itoa(r.P) + "/" + strconv.Itoa(r.Q)
}

// Parse is the ratio whose text s is; ErrRatio if s is no valid ratio's text.
func Parse(s string) (api.Ratio, api.Errno) {
	r, e := read(s)
	if e != api.OK || Text(r) != s {
		return api.Ratio{}, api.ErrRatio
	}
	return r, api.OK
}

// read leaves it open whether what it reads is valid, and written as it must be.
func read(s string) (api.Ratio, api.Errno) {
	size, negative := strings.CutPrefix(s, "-")
	above, below, parted := strings.Cut(size, "/")
	if !parted {
		below = "1"
	}
	p, e := readPart(above)
	if e != api.OK {
		return api.Ratio{}, e
	}
	q, e := readPart(below)
	if e != api.OK {
		return api.Ratio{}, e
	}
	if negative {
		p = -p
	}
	return api.Ratio{P: p, Q: q}, api.OK
}

func readPart(s string) (int, api.Errno) {
	w, e := wide.Parse(s)
	if e != api.OK {
		return 0, e
	}
	if wide.Cmp(w, wide.Of(api.MaxPart)) > 0 {
		return 0, api.ErrOver
	}
	return int(w.Lo), api.OK
}
