package walk_test

import (
	"slices"
	"testing"

	"copse/api"
	"copse/walk"
)

// nodes is a root, a node to its left with two leaves, and a leaf.
func nodes() []api.Node {
	c := api.Cut{Coef: []int{1}, At: 3}
	return []api.Node{{Cut: c, Left: 1, Right: 4, Size: 4}, {Cut: c, Left: 2, Right: 3, Size: 3}, {Size: 1}, {Size: 2}, {Size: 1}}
}

func TestNodes(t *testing.T) {
	for _, c := range []struct {
		tree   api.Tree
		depths []int
	}{
		{api.Tree{Dim: 1, Nodes: nodes()}, []int{0, 1, 2, 2, 1}}, {api.Tree{Dim: 1, Nodes: nodes()[2:3]}, []int{0}},
		{api.Tree{}, nil}, {api.Tree{Dim: 2, Nodes: nodes()}, nil}, {api.Tree{Dim: 1, Nodes: nodes()[:4]}, nil}, {api.Tree{Dim: 1, Nodes: append(nodes(), nodes()...)}, nil},
	} {
		var depths []int
		for i, depth := range walk.Nodes(c.tree) {
			if i != len(depths) {
				t.Error("not in order:", i)
			}
			depths = append(depths, depth)
		}
		if !slices.Equal(depths, c.depths) {
			t.Error(c.tree, depths)
		}
	}
}

// Who leaves the loop at a node sees no other one.
func TestNodesLeft(t *testing.T) {
	all := walk.Nodes(api.Tree{Dim: 1, Nodes: nodes()})
	for end := range 5 {
		var seen []int
		for i := range all {
			seen = append(seen, i)
			if i == end {
				break
			}
		}
		if len(seen) != end+1 {
			t.Error(end, seen)
		}
	}
}
