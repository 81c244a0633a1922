package bag

import (
	"slices"

	"copse/api"
)

// size is the number of scores for which a block has room.
const size = 64

// blocks is scores in their order, in blocks one after the other. None is empty but the first one, if it is the only one.
type blocks [][]api.Score

// block is a block of these scores, with its whole room.
func block(l ...api.Score) []api.Score {
	own := make([]api.Score, len(l), size)
	copy(own, l)
	return own
}

// first is the first number below n for which is holds, as it then holds for all that follow; n if there is none.
func first(n int, is func(i int) bool) int {
	low, high := 0, n
	for low < high {
		middle := (low + high) / 2
		if is(middle) {
			high = middle
		} else {
			low = middle + 1
		}
	}
	return low
}

// find is the block in which those that are not after end, and how many of its first scores they are: in the blocks before it none is after, and in those behind it all are.
func (b blocks) find(after func(s api.Score) bool) (int, int) {
	at := first(len(b)-1, func(i int) bool { return after(b[i+1][0]) })
	return at, first(len(b[at]), func(i int) bool { return after(b[at][i]) })
}

// upTo is the number of scores that are not after.
func (b blocks) upTo(after func(s api.Score) bool) int {
	at, n := b.find(after)
	for _, l := range b[:at] {
		n += len(l)
	}
	return n
}

// put is the blocks with s in that block, behind n of its scores.
func (b blocks) put(at, n int, s api.Score) blocks {
	if len(b[at]) == size {
		b = b.split(at)
		if n > size/2 {
			at, n = at+1, n-size/2
		}
	}
	l := append(b[at], s)
	copy(l[n+1:], l[n:])
	l[n] = s
	b[at] = l
	return b
}

// split is the blocks with both halves of that block in its place.
func (b blocks) split(at int) blocks {
	half := block(b[at][size/2:]...)
	b[at] = b[at][:size/2]
	return slices.Insert(b, at+1, half)
}

// cut is the blocks without the score with that index in that block.
func (b blocks) cut(at, i int) blocks {
	b[at] = slices.Delete(b[at], i, i+1)
	// Joined on both sides, blocks stay so full that they stay few.
	return b.join(at).join(at - 1)
}

// join is the blocks with that one and the next one as one, if there are both, and one has room for all their scores.
func (b blocks) join(at int) blocks {
	if at < 0 || at+1 >= len(b) || len(b[at])+len(b[at+1]) > size {
		return b
	}
	b[at] = append(b[at], b[at+1]...)
	return slices.Delete(b, at+1, at+2)
}
