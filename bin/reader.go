package bin

import "copse/api"

// mostSize is how many bytes follow the first byte of a number at most.
const mostSize = 8

// Reader reads bytes from a position on, until it fails.
type Reader struct {
	all []byte
	at  int
	err api.Errno
}

// From is a reader of b.
func From(b []byte) *Reader {
	return &Reader{all: append([]byte(nil), b...)}
}

// At is the position.
func (r *Reader) At() int {
	if r == nil {
		return 0
	}
	return r.at
}

// Left is the number of bytes from the position on.
func (r *Reader) Left() int {
	if r == nil {
		return 0
	}
	return len(r.all) - r.at
}

// Err is the error; OK if the reader has not failed.
func (r *Reader) Err() api.Errno {
	if r == nil {
		return api.ErrShut
	}
	return r.err
}

// Fail makes the reader fail with e, and with ErrForm if e is OK. The first error stays.
func (r *Reader) Fail(e api.Errno) {
	if r.Err() != api.OK {
		return
	}
	if e == api.OK {
		e = api.ErrForm
	}
	r.err = e
}

// End makes the reader fail with ErrForm if bytes remain.
func (r *Reader) End() {
	if r.Left() > 0 {
		r.Fail(api.ErrForm)
	}
}

// read is what part reads; nothing, with the position as it was, if the reader has failed, or fails within part.
func read[T any](r *Reader, part func() T) (got T) {
	if r.Err() != api.OK {
		return got
	}
	at := r.at
	defer func() {
		if r.err != api.OK {
			var none T
			r.at, got = at, none
		}
	}()
	return part()
}

// next is the next size bytes; ErrShort if there are fewer.
func (r *Reader) next(size int) []byte {
	if size > r.Left() {
		r.Fail(api.ErrShort)
		return nil
	}
	r.at += size
	return r.all[r.at-size : r.at]
}

// joined is the number with these big-endian bytes.
func joined(b []byte) uint64 {
	var n uint64
	for _, c := range b {
		n = n<<8 | uint64(c)
	}
	return n
}

// least is the least number that needs size bytes behind its first byte.
func least(size int) uint64 {
	if size == 1 {
		return few
	}
	return 1 << (8 * (size - 1))
}

// number is a number, or anything if the reader fails.
func (r *Reader) number() uint64 {
	first := joined(r.next(1))
	if first < few {
		return first
	}
	size := int(first) - int(head(0))
	if size > mostSize {
		r.Fail(api.ErrForm)
		return 0
	}
	n := joined(r.next(size))
	// If bytes are missing, the reader has failed already, and this has no effect.
	if n < least(size) {
		r.Fail(api.ErrForm)
	}
	return n
}

// U reads a number.
func (r *Reader) U() uint64 {
	return read(r, r.number)
}

// N reads a number; ErrForm if it is above most.
func (r *Reader) N(most int) int {
	return read(r, func() int {
		n := r.U()
		if most < 0 || n > uint64(most) {
			r.Fail(api.ErrForm)
		}
		return int(n)
	})
}

// unfolded is the signed number that has the bytes of n.
func unfolded(n uint64) int {
	half := int(n / 2)
	if n%2 > 0 {
		return -half - 1
	}
	return half
}

// I reads a signed number.
func (r *Reader) I() int {
	return unfolded(r.U())
}

// Text reads a text; ErrForm if it is longer than most.
func (r *Reader) Text(most int) []byte {
	return read(r, func() []byte {
		return append([]byte(nil), r.next(r.N(most))...)
	})
}

// Ints reads a list of signed numbers; ErrForm if it is longer than most.
func (r *Reader) Ints(most int) []int {
	return read(r, func() []int {
		var l []int
		// The length may be far above the number of bytes: the list grows only by what is there.
		for n := r.N(most); len(l) < n && r.err == api.OK; {
			l = append(l, r.I())
		}
		return l
	})
}
