package wood

import (
	"copse/api"
	"copse/bin"
	"copse/forest"
	"copse/tree"
)

// nobody is the index of no node.
const nobody = -1

// missing is a node that is still to be read: its depth, and the node of which it is Right (nobody: of none).
type missing struct {
	depth   int
	rightOf int
}

// GetTree reads a tree.
func GetTree(r *bin.Reader) api.Tree {
	dim := r.N(api.MaxDim)
	if dim == 0 {
		r.Fail(api.ErrForm)
	}
	nodes := getNodes(r, dim)
	if r.Err() != api.OK {
		return api.Tree{}
	}
	addSizes(nodes)
	t := api.Tree{Dim: dim, Nodes: nodes}
	if !tree.Is(t) {
		r.Fail(api.ErrForm)
		return api.Tree{}
	}
	return t
}

// getNodes reads a root and its subtrees, and leaves the Size of inner nodes open; what it answers is of no use if the reader has failed.
func getNodes(r *bin.Reader, dim int) []api.Node {
	var nodes []api.Node
	// The last one of the list is read first.
	list := []missing{{rightOf: nobody}}
	for len(list) > 0 && r.Err() == api.OK {
		m, index := list[len(list)-1], len(nodes)
		list = list[:len(list)-1]
		if m.depth > api.MaxDepth {
			r.Fail(api.ErrForm)
			break
		}
		n := getNode(r, dim)
		if m.rightOf != nobody {
			nodes[m.rightOf].Right = index
		}
		if n.Size == 0 {
			n.Left = index + 1
			list = append(list, missing{m.depth + 1, index}, missing{m.depth + 1, nobody})
		}
		nodes = append(nodes, n)
	}
	return nodes
}

// getNode reads what is written of a node: a leaf's Size, or the cut of an inner node, whose Size stays 0.
func getNode(r *bin.Reader, dim int) api.Node {
	n := api.Node{Size: r.N(api.MaxSample)}
	if n.Size > 0 {
		return n
	}
	n.Cut.Coef = make([]int, dim)
	for i := range n.Cut.Coef {
		n.Cut.Coef[i] = r.I()
	}
	n.Cut.At = r.I()
	return n
}

// addSizes sets the Size of each inner node to that of both its sides, all of which must be there.
func addSizes(nodes []api.Node) {
	// From the end on: what is below a node lies behind it.
	for i := len(nodes) - 1; i >= 0; i-- {
		if n := nodes[i]; n.Left > 0 {
			nodes[i].Size = nodes[n.Left].Size + nodes[n.Right].Size
		}
	}
}

// GetForest reads a forest.
func GetForest(r *bin.Reader) []api.Grown {
	var f []api.Grown
	for range r.N(api.MaxTrees) {
		born := r.N(api.MaxCount)
		f = append(f, api.Grown{Tree: GetTree(r), Born: born})
	}
	if !forest.Is(f) {
		r.Fail(api.ErrForm)
	}
	if r.Err() != api.OK {
		return nil
	}
	return f
}
