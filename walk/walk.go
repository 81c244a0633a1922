// Package walk goes through the nodes of trees.
package walk

import (
	"iter"

	"copse/api"
	"copse/tree"
)

// Nodes goes through the indices of the nodes of t, in ascending order, and their depths; through nothing if t is no tree.
func Nodes(t api.Tree) iter.Seq2[int, int] {
	return func(yield func(int, int) bool) {
		var visit func(at, depth int) bool
		visit = func(at, depth int) bool {
			if !yield(at, depth) {
				return false
			}
			n := t.Nodes[at]
			return n.Left == 0 || visit(n.Left, depth+1) && visit(n.Right, depth+1)
		}
		if tree.Is(t) {
			visit(0, 0)
		}
	}
}
