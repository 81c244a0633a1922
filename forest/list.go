package forest

import (
	"slices"

	"copse/api"
	"copse/tree"
)

// list is trees, and when they were grown. Its methods tell one thing of one tree each.
type list []api.Grown

// each is what tell tells of each index below n.
func each[E any](n int, tell func(i int) E) []E {
	l := make([]E, n)
	for i := range l {
		l[i] = tell(i)
	}
	return l
}

func (l list) tree(i int) api.Tree {
	return l[i].Tree
}

func (l list) born(i int) int {
	return l[i].Born
}

// right reports whether the tree is one, of the dimension of the first one, and grown when one may be.
func (l list) right(i int) bool {
	t, born := l[i].Tree, l[i].Born
	return tree.Is(t) && t.Dim == l[0].Tree.Dim && born >= 0 && born <= api.MaxCount
}

// copied is the tree in memory of its own, down to the coefficients.
func (l list) copied(i int) api.Tree {
	t := l[i].Tree
	t.Nodes = slices.Clone(t.Nodes)
	for k, n := range t.Nodes {
		t.Nodes[k].Cut.Coef = slices.Clone(n.Cut.Coef)
	}
	return t
}

// own is the tree in memory of its own, and when it was grown.
func (l list) own(i int) api.Grown {
	return api.Grown{Tree: l.copied(i), Born: l.born(i)}
}
