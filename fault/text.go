package fault

import (
	"strconv"
	"strings"

	"copse/api"
)

// Steps and Text go through a fault by loops, and not by calls within calls: a fault may be deeper than those may be.

// Steps is the steps of f's links, the outermost one first, where combinations go on with the first fault.
func Steps(f *Fault) []api.Step {
	var steps []api.Step
	for f != nil {
		var next *Fault
		switch part := f.part.(type) {
		case coded:
			steps = append(steps, part.step)
		case wrapping:
			steps = append(steps, part.step)
			next = part.inner
		case combined:
			next = part.first
		}
		f = next
	}
	return steps
}

// piece is what is still to be told of a fault: a mark, and behind it a fault, if there is one.
type piece struct {
	mark  string
	fault *Fault
}

// Text is what f's links are, from the outermost one on; empty if f is nil.
func Text(f *Fault) string {
	var text strings.Builder
	todo := []piece{{fault: f}}
	for len(todo) > 0 {
		last := len(todo) - 1
		next := todo[last]
		todo = todo[:last]
		text.WriteString(next.mark)
		if next.fault == nil {
			continue
		}
		switch part := next.fault.part.(type) {
		case coded:
			text.WriteString(stepText(part.step) + "=" + strconv.Itoa(int(part.code)))
		case wrapping:
			text.WriteString(stepText(part.step))
			todo = append(todo, piece{">", part.inner})
		case combined:
			todo = append(todo, piece{mark: ")"}, piece{"|", part.second}, piece{"(", part.first})
		}
	}
	return text.String()
}

func stepText(s api.Step) string {
	if s.At < 0 {
		return s.Op
	}
	return s.Op + " " + strconv.Itoa(s.At)
}
