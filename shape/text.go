package shape

import (
	"strconv"
	"strings"

	"copse/api"
	"copse/walk"
)

// head is the text of a node without those of the nodes below it, and without what closes it.
func head(n api.Node) string {
	if n.Left == 0 {
		return strconv.Itoa(n.Size)
	}
	text := "("
	for _, c := range n.Cut.Coef {
		text += strconv.Itoa(c) + " "
	}
	return text + "< " + strconv.Itoa(n.Cut.At)
}

// Text is the text of t; empty if t is no tree.
func Text(t api.Tree) string {
	var b strings.Builder
	last := 0
	for i, depth := range walk.Nodes(t) {
		if i == 0 {
			b.WriteString(strconv.Itoa(t.Dim) + ":")
		} else {
			// A leaf ends all subtrees that are deeper than the next node.
			b.WriteString(strings.Repeat(")", max(last-depth, 0)) + " ")
		}
		b.WriteString(head(t.Nodes[i]))
		last = depth
	}
	b.WriteString(strings.Repeat(")", last))
	return b.String()
}

// Parse is the tree with the text s; ErrText if s is the text of none.
func Parse(s string) (api.Tree, api.Errno) {
	r := reader{rest: s}
	dim := r.number()
	if dim < 1 || dim > api.MaxDim {
		return api.Tree{}, api.ErrText
	}
	r.skip(":")
	r.node(dim, 0)
	// What is read may be anything: only a tree that is written like s is the one.
	t := api.Tree{Dim: dim, Nodes: r.nodes}
	if Text(t) != s {
		return api.Tree{}, api.ErrText
	}
	return t, api.OK
}

// reader is what is left of a text, and the nodes that were read. It takes any text as that of a tree, and leaves what it can't read.
type reader struct {
	rest  string
	nodes []api.Node
}

// skip passes over what the rest should begin with, and reports whether it does.
func (r *reader) skip(sign string) bool {
	rest, ok := strings.CutPrefix(r.rest, sign)
	r.rest = rest
	return ok
}

// number takes what the rest begins with up to a sign that no number has.
func (r *reader) number() int {
	end := strings.IndexAny(r.rest, ":( )")
	if end < 0 {
		end = len(r.rest)
	}
	n, _ := strconv.Atoi(r.rest[:end])
	r.rest = r.rest[end:]
	return n
}

// node takes a node at that depth, and those below it, and answers its Size.
func (r *reader) node(dim, depth int) int {
	i := len(r.nodes)
	r.nodes = append(r.nodes, api.Node{})
	if depth > api.MaxDepth {
		return 0
	}
	if !r.skip("(") {
		r.nodes[i].Size = r.number()
		return r.nodes[i].Size
	}
	n := api.Node{Left: i + 1}
	for range dim {
		n.Cut.Coef = append(n.Cut.Coef, r.number())
		r.skip(" ")
	}
	r.skip("< ")
	n.Cut.At = r.number()
	r.skip(" ")
	n.Size = r.node(dim, depth+1)
	r.skip(" ")
	n.Right = len(r.nodes)
	n.Size += r.node(dim, depth+1)
	r.skip(")")
	r.nodes[i] = n
	return n.Size
}
