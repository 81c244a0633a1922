package tree

import (
	"copse/api"
	"copse/cut"
	"copse/num"
)

// nobody is the index of no node.
const nobody = -1

// waiting is points that become a node: their depth, and the node of which that is to be Right (nobody: of none).
type waiting struct {
	points  [][]int
	depth   int
	rightOf int
}

// Grow is a tree of points, and the position after its draws; ErrLong if there are too many, ErrArg for what may not be asked, ErrVec if there are none or they are not vectors of one dimension, and the errors of a draw.
func Grow(kind int, points [][]int, l []uint64, at, tries int) (api.Tree, int, api.Errno) {
	if len(points) > api.MaxSample {
		return api.Tree{}, 0, api.ErrLong
	}
	// Log of one point is 0, but Draw is asked about it, too: it tells what is wrong with what was handed in, and finds no cut.
	deepest := max(1, num.Log(len(points)))
	var nodes []api.Node
	stack := []waiting{{points: points, rightOf: nobody}}
grow:
	for len(stack) > 0 {
		w, index := stack[len(stack)-1], len(nodes)
		stack = stack[:len(stack)-1]
		nodes = append(nodes, api.Node{Size: len(w.points)})
		if w.rightOf != nobody {
			nodes[w.rightOf].Right = index
		}
		if w.depth == deepest {
			continue grow
		}
		c, after, ok, e := cut.Draw(kind, w.points, l, at, tries)
		switch {
		case e != api.OK:
			return api.Tree{}, 0, e
		case !ok:
			continue grow
		}
		left, right, e := parted(c, w.points)
		if e != api.OK {
			return api.Tree{}, 0, e
		}
		nodes[index].Cut, nodes[index].Left, at = c, index+1, after
		// What is on top is grown first: the nodes to the left come before those to the right.
		stack = append(stack, waiting{right, w.depth + 1, index}, waiting{left, w.depth + 1, nobody})
	}
	return api.Tree{Dim: len(points[0]), Nodes: nodes}, at, api.OK
}

// parted is those of points that c sends to the left, and the others.
func parted(c api.Cut, points [][]int) ([][]int, [][]int, api.Errno) {
	left, right, e := cut.Split(c, points)
	if e != api.OK {
		return nil, nil, e
	}
	return chosen(points, left), chosen(points, right), api.OK
}

// chosen is the points with these indices.
func chosen(points [][]int, indices []int) [][]int {
	l := make([][]int, len(indices))
	for i, index := range indices {
		l[i] = points[index]
	}
	return l
}
