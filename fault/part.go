package fault

import (
	"errors"

	"copse/api"
)

// What a fault is made of. A wrapping unwraps to the part that it wraps, so that a chain of links ends in a coded or in a combined one.
type (
	coded struct {
		step api.Step
		code api.Errno
	}
	wrapping struct {
		step  api.Step
		inner *Fault
	}
	// A combined one does not unwrap: errors.Is would go through one fault as often as it was combined with itself.
	combined struct {
		first, second *Fault
	}
)

func (c coded) Error() string    { return Text(&Fault{c}) }
func (w wrapping) Error() string { return Text(&Fault{w}) }
func (c combined) Error() string { return Text(&Fault{c}) }

func (w wrapping) Unwrap() error { return w.inner.part }

// Is lets errors.Is find a link by its code.
func (c coded) Is(target error) bool {
	switch wanted := target.(type) {
	case thisCode:
		return c.code == api.Errno(wanted)
	case thisClass:
		return Class(c.code) == int(wanted)
	}
	return false
}

// What errors.Is is to find: a link with this code, or one whose code has this class.
type (
	thisCode  api.Errno
	thisClass int
)

func (thisCode) Error() string  { return "a link with this code" }
func (thisClass) Error() string { return "a link whose code has this class" }

// pair stands for a combination where the errors.Is and errors.As of others need both faults at once.
type pair combined

func (p pair) Error() string   { return combined(p).Error() }
func (p pair) Unwrap() []error { return []error{p.first, p.second} }

// link is the link with a code in which f's chain ends, if it ends in one.
func (f *Fault) link() (coded, bool) {
	var link coded
	ok := errors.As(f.part, &link)
	return link, ok
}

// combination is the one in which f's chain of links ends, if it ends in one.
func (f *Fault) combination() (combined, bool) {
	var both combined
	ok := errors.As(f.part, &both)
	return both, ok
}

// has reports whether what is wanted is anywhere in f. It goes through each fault once: one that was combined with itself, 64 times over, has 2^64 links.
func (f *Fault) has(wanted error) bool {
	if f == nil {
		return false
	}
	seen := map[*Fault]struct{}{}
	todo := []*Fault{f}
	for len(todo) > 0 {
		last := len(todo) - 1
		next := todo[last]
		todo = todo[:last]
		if _, again := seen[next]; again {
			continue
		}
		seen[next] = struct{}{}
		if errors.Is(next.part, wanted) {
			return true
		}
		if both, ok := next.combination(); ok {
			todo = append(todo, both.second, both.first)
		}
	}
	return false
}
