package flat

import (
	"slices"

	"copse/api"
	"copse/harm"
	"copse/vec"
	"copse/walk"
)

// cells is the arrays of trees. A node is told by its index in all of them.
type cells api.Flat

// of is the arrays of l, which must be trees of the same dimension.
func of(l []api.Tree) cells {
	var c cells
	for _, t := range l {
		c.add(t)
	}
	return c
}

// add puts the nodes of t behind those that are there.
func (c *cells) add(t api.Tree) {
	start := len(c.Size)
	c.Dim = t.Dim
	c.Starts = append(c.Starts, start)
	for i, depth := range walk.Nodes(t) {
		n, length := t.Nodes[i], 0
		if n.Left == 0 {
			n.Cut.Coef = make([]int, t.Dim)
			length = depth*api.Unit + harm.Norm(n.Size)
		} else {
			n.Left, n.Right = n.Left+start, n.Right+start
		}
		c.Coef = append(c.Coef, n.Cut.Coef...)
		c.At = append(c.At, n.Cut.At)
		c.Left = append(c.Left, n.Left)
		c.Right = append(c.Right, n.Right)
		c.Add = append(c.Add, length)
		c.Size = append(c.Size, n.Size)
	}
}

// coef is the coefficients of a node, in the arrays' own memory.
func (c *cells) coef(at int) []int {
	return c.Coef[at*c.Dim : (at+1)*c.Dim]
}

// leaf reports whether a node is a leaf. Left of any other one is a node behind it, and so not 0, even in the first tree.
func (c *cells) leaf(at int) bool {
	return c.Left[at] == 0
}

// node is a node of the tree that begins at start, as it was there.
func (c *cells) node(start, at int) api.Node {
	if c.leaf(at) {
		return api.Node{Size: c.Size[at]}
	}
	part := api.Cut{Coef: slices.Clone(c.coef(at)), At: c.At[at]}
	return api.Node{Cut: part, Left: c.Left[at] - start, Right: c.Right[at] - start, Size: c.Size[at]}
}

// tree is the tree at that index, which must be there.
func (c *cells) tree(place int) api.Tree {
	starts := append(slices.Clone(c.Starts), len(c.Size))
	start, end := starts[place], starts[place+1]
	nodes := make([]api.Node, end-start)
	for i := range nodes {
		nodes[i] = c.node(start, start+i)
	}
	return api.Tree{Dim: c.Dim, Nodes: nodes}
}

// trees is all trees, in order.
func (c *cells) trees() []api.Tree {
	l := make([]api.Tree, len(c.Starts))
	for i := range l {
		l[i] = c.tree(i)
	}
	return l
}

// side is 0 if a node that is no leaf sends x to the left, and otherwise 1.
func (c *cells) side(at int, x []int) int {
	// Only cuts are in the arrays, and x is a vector of their dimension: there is a product.
	product, _ := vec.Dot(c.coef(at), x)
	if product < c.At[at] {
		return 0
	}
	return 1
}

// length is that of the leaf that x, a vector of the trees' dimension, reaches from a root.
func (c *cells) length(at int, x []int) int {
	next := [2][]int{c.Left, c.Right}
descend:
	if c.leaf(at) {
		return c.Add[at]
	}
	at = next[c.side(at, x)][at]
	goto descend
}

// copied is the arrays in memory of their own.
func (c *cells) copied() api.Flat {
	return api.Flat{
		Dim:    c.Dim,
		Starts: slices.Clone(c.Starts),
		Coef:   slices.Clone(c.Coef),
		At:     slices.Clone(c.At),
		Left:   slices.Clone(c.Left),
		Right:  slices.Clone(c.Right),
		Add:    slices.Clone(c.Add),
		Size:   slices.Clone(c.Size),
	}
}
