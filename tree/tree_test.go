package tree_test

import (
	"math/rand/v2"
	"slices"
	"testing"

	"copse/api"
	"copse/cut"
	"copse/num"
	"copse/tree"
)

const (
	top   = 1<<64 - 1
	least = -1 << 63
	most  = 1<<63 - 1
)

// same is a list of n times this number.
func same(n, number int) []int {
	return slices.Repeat([]int{number}, n)
}

// end is the nodes of a leaf.
func end(size int) []api.Node {
	return []api.Node{{Size: size}}
}

// fork is the nodes of what a cut parts, which lie one after the other, as if the first one was the root.
func fork(coef []int, at int, left, right []api.Node) []api.Node {
	nodes := []api.Node{{Cut: api.Cut{Coef: coef, At: at}, Left: 1, Right: 1 + len(left), Size: left[0].Size + right[0].Size}}
	for _, side := range [][]api.Node{left, right} {
		from := len(nodes)
		for _, n := range side {
			if n.Left != 0 {
				n.Left, n.Right = n.Left+from, n.Right+from
			}
			nodes = append(nodes, n)
		}
	}
	return nodes
}

// at is what a cut by the only column parts.
func at(level int, left, right []api.Node) []api.Node {
	return fork([]int{1}, level, left, right)
}

// full is the nodes of all cuts down to a depth, each of whose leaves has one point.
func full(depth int) []api.Node {
	if depth == 0 {
		return end(1)
	}
	return at(depth, full(depth-1), full(depth-1))
}

// copied is t in memory of its own.
func copied(t api.Tree) api.Tree {
	t.Nodes = slices.Clone(t.Nodes)
	for i, n := range t.Nodes {
		t.Nodes[i].Cut.Coef = slices.Clone(n.Cut.Coef)
	}
	return t
}

// below is the index after the subtree of node i, which is at that depth; false if it is none, or deeper than limit.
func below(t api.Tree, i, depth, limit int) (int, bool) {
	if i >= len(t.Nodes) || depth > limit {
		return 0, false
	}
	n := t.Nodes[i]
	if n.Left == 0 && n.Right == 0 {
		return i + 1, len(n.Cut.Coef) == 0 && n.Cut.At == 0 && n.Size >= 1
	}
	behind, ok := below(t, i+1, depth+1, limit)
	if !ok || n.Left != i+1 || n.Right != behind || !cut.Is(n.Cut, t.Dim) {
		return 0, false
	}
	after, ok := below(t, behind, depth+1, limit)
	return after, ok && n.Size == t.Nodes[n.Left].Size+t.Nodes[n.Right].Size
}

// is reports whether t is a tree, whose sizes must be small.
func is(t api.Tree) bool {
	if t.Dim < 1 || t.Dim > 8 || len(t.Nodes) == 0 || t.Nodes[0].Size > 64 {
		return false
	}
	after, ok := below(t, 0, 0, num.Log(t.Nodes[0].Size))
	return ok && after == len(t.Nodes)
}

// P10.1
func TestIs(t *testing.T) {
	for i, nodes := range [][]api.Node{
		end(1), end(64), end(7), at(5, end(1), end(1)), at(-api.MaxReach, end(1), end(63)), at(api.MaxReach, end(32), end(32)), at(3, at(2, end(1), end(1)), end(1)), at(3, end(1), at(4, end(1), end(1))), at(0, at(0, end(1), end(1)), at(0, end(1), end(1))), full(6),
		at(1, end(58), at(2, end(1), at(3, end(1), at(4, end(1), at(5, end(1), at(6, end(1), end(1))))))), at(6, at(5, at(4, at(3, at(2, at(1, end(1), end(1)), end(1)), end(1)), end(1)), end(1)), end(27)), at(1, end(1), at(2, end(1), at(3, end(2), end(1)))),
	} {
		if !tree.Is(api.Tree{Dim: 1, Nodes: nodes}) {
			t.Error("no tree:", i)
		}
	}
	for i, nodes := range [][]api.Node{
		nil, {}, end(0), end(-1), end(65), end(most), end(least), at(5, end(0), end(1)), at(5, end(1), end(0)), at(5, end(-1), end(3)), at(5, end(1), end(64)), at(5, end(64), end(64)), at(api.MaxReach+1, end(1), end(1)), at(-api.MaxReach-1, end(1), end(1)), at(most, end(1), end(1)),
		fork([]int{0}, 1, end(1), end(1)), fork([]int{5}, 1, end(1), end(1)), fork([]int{1, 1}, 1, end(1), end(1)), fork(nil, 0, end(1), end(1)), fork(nil, 1, end(1), end(1)), at(1, end(1), fork([]int{1, 0}, 1, end(1), end(1))), append(end(1), end(1)...), append(at(1, end(1), end(1)), end(1)...),
		{{Size: 2, Cut: api.Cut{Coef: []int{1}}}}, {{Size: 2, Cut: api.Cut{At: 1}}}, {{Size: 2, Left: 1}}, {{Size: 2, Right: 1}}, {{Size: 2, Left: 1, Right: 2}}, {{Size: 2, Left: -1, Right: -1}}, {{Size: 2, Left: most, Right: most}}, {{Size: 2, Cut: api.Cut{Coef: []int{1}}, Left: 1, Right: 2}}, at(1, end(1), end(1))[:2], at(1, end(1), end(1))[:1], at(1, end(1), end(1))[1:], full(7), full(3)[:14],
		// Too deep for the number of points, by one step.
		at(1, end(1), at(2, end(1), at(3, end(1), end(1)))), at(3, at(2, at(1, end(1), end(1)), end(1)), end(1)), at(1, end(57), at(2, end(1), at(3, end(1), at(4, end(1), at(5, end(1), at(6, end(1), at(7, end(1), end(1)))))))),
		// The sizes go round to 3, or to 64.
		at(1, at(1, end(1<<62), end(1<<62)), at(1, end(1<<62), end(1<<62+3))), at(1, end(least), end(least+64)), at(1, end(most), end(least+4)),
	} {
		if tree.Is(api.Tree{Dim: 1, Nodes: nodes}) {
			t.Error("a tree:", i)
		}
	}
	for dim := -1; dim <= 10; dim++ {
		ok := dim >= 1 && dim <= api.MaxDim
		if tree.Is(api.Tree{Dim: dim, Nodes: end(3)}) != ok {
			t.Error("a leaf of dimension", dim, !ok)
		}
		for n := range 11 {
			if tree.Is(api.Tree{Dim: dim, Nodes: fork(same(n, -1), 9, end(1), end(2))}) != (ok && n == dim) {
				t.Error(n, "coefficients in dimension", dim)
			}
		}
	}
	if tree.Is(api.Tree{Dim: most, Nodes: end(3)}) || tree.Is(api.Tree{Dim: least, Nodes: end(3)}) {
		t.Error("a dimension that none has")
	}
	if !tree.Is(api.Tree{Dim: 1, Nodes: []api.Node{{Cut: api.Cut{Coef: []int{}}, Size: 1}}}) {
		t.Error("nil and the empty list")
	}
}

// P10.1: a list that is far too long is told as such soon
func TestIsOfLongLists(t *testing.T) {
	chain := api.Tree{Dim: 1, Nodes: make([]api.Node, 1<<18+1)}
	for i := range 1 << 17 {
		chain.Nodes[2*i] = api.Node{Cut: api.Cut{Coef: []int{1}}, Left: 2*i + 1, Right: 2*i + 2, Size: 1<<17 - i + 1}
		chain.Nodes[2*i+1].Size = 1
	}
	chain.Nodes[1<<18].Size = 1
	if tree.Is(chain) {
		t.Error("a tree of more nodes than there may be")
	}
	if _, _, e := tree.Leaf(chain, []int{1}); e != api.ErrTree {
		t.Error(e)
	}
}

// P10.1: all lists of up to three nodes with small numbers
func TestIsOfAllSmall(t *testing.T) {
	var options []api.Node
	for i := range 4 * 4 * 4 {
		options = append(options, api.Node{Left: i % 4, Right: i / 4 % 4, Size: i / 16}, api.Node{Cut: api.Cut{Coef: []int{1}, At: 1}, Left: i % 4, Right: i / 4 % 4, Size: i / 16})
	}
	trees := 0
	var fill func(nodes []api.Node)
	fill = func(nodes []api.Node) {
		l := api.Tree{Dim: 1, Nodes: nodes}
		if got := tree.Is(l); got != is(l) {
			t.Fatal(l, got)
		} else if got {
			trees++
		}
		if len(nodes) < 3 {
			for _, n := range options {
				fill(append(nodes, n))
			}
		}
	}
	fill(make([]api.Node, 0, 3))
	// Leaves of 1, 2 and 3; and a root with leaves of 1 and 1, 1 and 2, or 2 and 1.
	if trees != 6 {
		t.Error(trees)
	}
}

// grown is the nodes of a random tree of so many points, from a depth on.
func grown(random *rand.Rand, dim, depth, limit, size int) []api.Node {
	if size == 1 || depth == limit || random.IntN(5) == 0 {
		return end(size)
	}
	coef := make([]int, dim)
	coef[random.IntN(dim)] = 1 + random.IntN(4)
	left := 1 + random.IntN(size-1)
	return fork(coef, random.IntN(20)-10, grown(random, dim, depth+1, limit, left), grown(random, dim, depth+1, limit, size-left))
}

// spoil changes one thing of t, which mostly makes it no tree.
func spoil(random *rand.Rand, t *api.Tree) {
	n := &t.Nodes[random.IntN(len(t.Nodes))]
	other := t.Nodes[random.IntN(len(t.Nodes))]
	by := []int{-1, 1, 2, -64}[random.IntN(4)]
	switch random.IntN(14) {
	case 0:
		n.Left += by
	case 1:
		n.Right += by
	case 2:
		n.Size += by
	case 3:
		n.Cut.At += by
	case 4:
		n.Cut.Coef = append(n.Cut.Coef, 1)
	case 5:
		n.Cut.Coef = nil
	case 6:
		*n = other
	case 7:
		t.Nodes = append(t.Nodes, other)
	case 8:
		t.Nodes = t.Nodes[:random.IntN(len(t.Nodes))+1]
	case 9:
		n.Size = other.Size
	case 10:
		n.Left, n.Right = 0, 0
	case 11:
		n.Right = other.Right
	case 12:
		t.Dim += by
	case 13:
		n.Cut = other.Cut
	}
}

// P10.1
func TestIsAndSameOfMany(t *testing.T) {
	random := rand.New(rand.NewPCG(10, 1))
	spoiled, kept := 0, 0
	for range 30000 {
		dim, size := 1+random.IntN(api.MaxDim), 1+random.IntN([]int{2, 8, 64}[random.IntN(3)])
		a := api.Tree{Dim: dim, Nodes: grown(random, dim, 0, num.Log(size), size)}
		if !tree.Is(a) || !tree.Same(a, copied(a)) {
			t.Fatal("no tree, or not itself:", a)
		}
		b := copied(a)
		for range 1 + random.IntN(2) {
			spoil(random, &b)
		}
		before := copied(b)
		if got := tree.Is(b); got != is(b) {
			t.Fatal(b, got)
		} else if got {
			kept++
		} else {
			spoiled++
		}
		equal := a.Dim == b.Dim && slices.EqualFunc(a.Nodes, b.Nodes, func(n, m api.Node) bool {
			return n.Left == m.Left && n.Right == m.Right && n.Size == m.Size && n.Cut.At == m.Cut.At && slices.Equal(n.Cut.Coef, m.Cut.Coef)
		})
		if tree.Same(a, b) != equal || tree.Same(b, a) != equal {
			t.Fatal(a, b, !equal)
		}
		if !tree.Same(b, before) {
			t.Fatal("what was handed in was changed")
		}
	}
	if spoiled < 1000 || kept < 1000 {
		t.Error("seldom tested:", spoiled, kept)
	}
}

// P10.1: of what is no tree, too
func TestSame(t *testing.T) {
	l := []api.Tree{{}, {Dim: 1}, {Dim: most}, {Dim: 1, Nodes: end(3)}, {Dim: 2, Nodes: end(3)}, {Dim: 1, Nodes: end(4)}, {Dim: 1, Nodes: []api.Node{{Left: 5, Size: 3}}}, {Dim: 1, Nodes: []api.Node{{Right: 5, Size: 3}}}, {Dim: 1, Nodes: []api.Node{{Cut: api.Cut{At: 5}, Size: 3}}}, {Dim: 1, Nodes: []api.Node{{Cut: api.Cut{Coef: []int{9, 9}}, Size: 3}}}, {Dim: 1, Nodes: append(end(3), end(3)...)}, {Dim: 1, Nodes: append(end(3), end(2)...)}, {Dim: 1, Nodes: at(3, end(1), end(1))}, {Dim: 1, Nodes: at(4, end(1), end(1))}}
	for i, a := range l {
		for j, b := range l {
			if tree.Same(a, copied(b)) != (i == j) {
				t.Error(i, j)
			}
		}
	}
	if !tree.Same(api.Tree{Nodes: []api.Node{}}, api.Tree{}) || !tree.Same(api.Tree{Nodes: []api.Node{{Cut: api.Cut{Coef: []int{}}}}}, api.Tree{Nodes: []api.Node{{}}}) {
		t.Error("nil and the empty list")
	}
}

// column is points of one column.
func column(numbers ...int) [][]int {
	var l [][]int
	for _, n := range numbers {
		l = append(l, []int{n})
	}
	return l
}

// P10.2
func TestGrow(t *testing.T) {
	corners := [][]int{{0, 0}, {5, 0}, {0, 5}, {5, 5}}
	x, y := []int{1, 0}, []int{0, 1}
	for i, c := range []struct {
		kind   int
		points [][]int
		l      []uint64
		at     int
		tries  int
		nodes  []api.Node
		next   int
	}{
		{api.KindAxis, column(1, 3, 2), []uint64{0, 1, 0, 0}, 0, 1, at(3, at(2, end(1), end(1)), end(1)), 4},
		{api.KindAxis, column(1, 3, 2), []uint64{9, 0, 0, 0, 0}, 1, 1, at(2, end(1), at(3, end(1), end(1))), 5},
		{api.KindAxis, column(1, 4, 2), []uint64{0, top, 0, 0, 0, 0}, 0, 64, at(2, end(1), at(3, end(1), end(1))), 5},
		// All cuts at the least number: two points are left at depth 2, which is as deep as four of them go.
		{api.KindAxis, column(0, 1, 2, 3), []uint64{0, 0, 0, 0}, 0, 1, at(1, end(1), at(2, end(1), end(2))), 4},
		{api.KindAxis, column(3, 2, 1, 0), []uint64{0, 2, 0, 1}, 0, 1, at(3, at(2, end(2), end(1)), end(1)), 4},
		{api.KindAxis, column(0, 1, 2, 3, 4), make([]uint64, 20), 0, 1, at(1, end(1), at(2, end(1), at(3, end(1), end(2)))), 6},
		{api.KindAxis, column(0, 1, 2, 3, 4), []uint64{0, 1, 0, 0, 0, 1, 0, 0}, 0, 1, at(2, at(1, end(1), end(1)), at(4, at(3, end(1), end(1)), end(1))), 8},
		// Equal points are a leaf, at any depth, and take no draws.
		{api.KindAxis, column(4, 4, 4, 4), nil, 7, 1, end(4), 7}, {api.KindPlane, column(4), nil, 0, 64, end(1), 0}, {api.KindAxis, column(4), nil, most, 64, end(1), most}, {api.KindAxis, column(4, 9, 4, 4, 9), []uint64{0, 4}, 0, 1, at(9, end(3), end(2)), 2}, {api.KindAxis, [][]int{same(8, 1), same(8, 1)}, nil, 3, 1, end(2), 3}, {api.KindAxis, column(9, 4), []uint64{0, 4, 8}, 0, 1, at(9, end(1), end(1)), 2},
		{api.KindAxis, column(slices.Repeat([]int{6}, 64)...), nil, 0, 1, end(64), 0}, {api.KindPlane, column(slices.Repeat([]int{6, 7}, 32)...), []uint64{3, 0}, 0, 1, fork([]int{-1}, -6, end(32), end(32)), 2},
		// The draws go to the nodes to the left first.
		{api.KindAxis, corners, []uint64{0, 0, 0, 3, 0, 1}, 0, 1, fork(x, 1, fork(y, 4, end(1), end(1)), fork(y, 2, end(1), end(1))), 6},
		{api.KindPlane, corners, []uint64{5, 5, 9, 4, 5, 0, 0}, 0, 1, fork([]int{1, 1}, 10, fork([]int{0, 1}, 1, end(2), end(1)), end(1)), 6},
		{api.KindPlane, corners, []uint64{5, 5, 0, 5, 3, 9, 5, 5, 0, 4}, 0, 1, fork([]int{1, 1}, 1, end(1), fork([]int{1, -1}, 5, end(2), end(1))), 6},
		{api.KindPlane, corners[1:3], []uint64{5, 5, 1, 4}, 0, 1, fork(y, 5, end(1), end(1)), 4},
	} {
		got, next, e := tree.Grow(c.kind, c.points, c.l, c.at, c.tries)
		if !tree.Same(got, api.Tree{Dim: len(c.points[0]), Nodes: c.nodes}) || next != c.next || e != api.OK {
			t.Error(i, got, next, e)
		}
	}
}

// P10.2, R2
func TestGrowErrors(t *testing.T) {
	fails := func(kind int, points [][]int, l []uint64, at, tries int, want api.Errno) {
		t.Helper()
		if got, next, e := tree.Grow(kind, points, l, at, tries); got.Dim != 0 || len(got.Nodes) != 0 || next != 0 || e != want {
			t.Error(kind, points, l, at, tries, got, next, e)
		}
	}
	long := column(same(65, 1)...)
	for _, points := range [][][]int{long, make([][]int, 65), make([][]int, 4000)} {
		fails(api.KindAxis, points, nil, 0, 1, api.ErrLong)
		fails(api.KindPlane, points, make([]uint64, 200), 0, 1, api.ErrLong)
		fails(3, points, nil, 0, 1, api.ErrLong)
		fails(api.KindAxis, points, nil, -1, 1, api.ErrLong)
		fails(api.KindAxis, points, nil, 0, 0, api.ErrLong)
	}
	for _, points := range [][][]int{nil, {}, {nil}, column(4), column(4, 4), column(1, 2, 3), {{1}, {1, 2}}, {{most}}, long[:64]} {
		for _, l := range [][]uint64{nil, make([]uint64, 200)} {
			for _, kind := range []int{0, 3, -1, least, most} {
				fails(kind, points, l, 0, 1, api.ErrArg)
			}
			for _, kind := range []int{api.KindAxis, api.KindPlane} {
				fails(kind, points, l, -1, 1, api.ErrArg)
				fails(kind, points, l, least, 1, api.ErrArg)
				for _, tries := range []int{0, -1, 65, least, most} {
					fails(kind, points, l, 0, tries, api.ErrArg)
				}
			}
		}
	}
	for _, kind := range []int{api.KindAxis, api.KindPlane} {
		for _, l := range [][]uint64{nil, make([]uint64, 200)} {
			for _, points := range [][][]int{nil, {}, {nil}, {{}}, {{}, {}}, {same(9, 1)}, {same(9, 1), same(9, 2)}, {{most}}, {{api.MostValue + 1}, {1}}, {{1}, {api.LeastValue - 1}}, {{1}, {1, 2}}, {{1, 2}, {1}}, {{1}, {1}, nil}, make([][]int, 64)} {
				fails(kind, points, l, 0, 1, api.ErrVec)
			}
		}
	}
	fails(api.KindAxis, column(1, 2, 3), nil, 0, 1, api.ErrDraws)
	fails(api.KindAxis, column(1, 2, 3), []uint64{0, 0, 0}, 0, 1, api.ErrDraws)
	fails(api.KindAxis, column(1, 2, 3), []uint64{0, 0, 0, 0}, 1, 1, api.ErrDraws)
	fails(api.KindAxis, column(1, 2, 3), []uint64{0, 0, 0, 0}, most, 1, api.ErrDraws)
	fails(api.KindAxis, column(1, 2, 3), []uint64{0, 0, 0, 0}[:3], 0, 1, api.ErrDraws)
	fails(api.KindAxis, column(1, 2, 5, 4), []uint64{0, 0, 0, top, top}, 0, 2, api.ErrTries)
	fails(api.KindAxis, column(1, 2, 5, 4), []uint64{0, 0, 0, top, top}, 0, 3, api.ErrDraws)
	fails(api.KindPlane, column(1, 2, 3), []uint64{5, 0, 4, 4}, 0, 2, api.ErrTries)
	fails(api.KindPlane, column(1, 2, 3), []uint64{5, 0, 4}, 0, 2, api.ErrDraws)
}

// growing is the nodes that the points of a node become at a depth, and the position after their draws.
func growing(kind int, points [][]int, depth, limit int, l []uint64, at, tries int) ([]api.Node, int, api.Errno) {
	if len(points) == 1 || depth == limit || !slices.ContainsFunc(points, func(p []int) bool { return !slices.Equal(p, points[0]) }) {
		return end(len(points)), at, api.OK
	}
	c, at, _, e := cut.Draw(kind, points, l, at, tries)
	if e != api.OK {
		return nil, 0, e
	}
	var sides [2][][]int
	for _, p := range points {
		goes, _ := cut.Left(c, p)
		side := 1
		if goes {
			side = 0
		}
		sides[side] = append(sides[side], p)
	}
	left, at, e := growing(kind, sides[0], depth+1, limit, l, at, tries)
	if e != api.OK {
		return nil, 0, e
	}
	right, at, e := growing(kind, sides[1], depth+1, limit, l, at, tries)
	if e != api.OK {
		return nil, 0, e
	}
	return fork(c.Coef, c.At, left, right), at, api.OK
}

// some are points of dimension dim; few numbers are between their ends, so that they meet.
func some(random *rand.Rand, n, dim int) [][]int {
	numbers := []int{api.LeastValue, api.MostValue, 0, 1, 2, 3, 5, int(int32(random.Uint32()))}
	first := random.IntN(len(numbers))
	numbers = numbers[first : first+1+random.IntN(len(numbers)-first)]
	wide := random.IntN(2) == 0
	l := make([][]int, n)
	for i := range l {
		for range dim {
			if wide {
				l[i] = append(l[i], random.IntN(1000)-500)
			} else {
				l[i] = append(l[i], numbers[random.IntN(len(numbers))])
			}
		}
	}
	return l
}

// draws are n draws, of which a few do not count for most bounds.
func draws(random *rand.Rand, n int) []uint64 {
	l := make([]uint64, n)
	for i := range l {
		l[i] = random.Uint64()
		if random.IntN(8) == 0 {
			l[i] = []uint64{top, 4, 0, 5}[random.IntN(4)]
		}
	}
	return l
}

// P10.2, P10.3, P10.5, R3
func TestGrowOfMany(t *testing.T) {
	random := rand.New(rand.NewPCG(10, 2))
	failed, cut := 0, 0
	for range 6000 {
		kind, dim, n := 1+random.IntN(2), 1+random.IntN(api.MaxDim), 1+random.IntN([]int{3, 12, 64}[random.IntN(3)])
		points, l := some(random, n, dim), draws(random, random.IntN([]int{50, 1500}[random.IntN(2)]))
		at, tries := random.IntN(3), 1+random.IntN(4)
		given, listed := make([][]int, n), slices.Clone(l)
		for i, p := range points {
			given[i] = slices.Clone(p)
		}
		got, next, e := tree.Grow(kind, points, l, at, tries)
		nodes, after, wrong := growing(kind, points, 0, num.Log(n), l, at, tries)
		if e != wrong || next != after || len(got.Nodes) != len(nodes) {
			t.Fatal(kind, points, l, at, tries, got, next, e)
		}
		if !slices.EqualFunc(points, given, slices.Equal[[]int]) || !slices.Equal(l, listed) {
			t.Fatal("what was handed in was changed")
		}
		if e != api.OK {
			failed++
			continue
		}
		if !tree.Same(got, api.Tree{Dim: dim, Nodes: nodes}) || !is(got) || len(nodes) > 2*n-1 || next-at > tree.Most(kind, dim, n, tries) {
			t.Fatal(kind, points, l, at, tries, got, next)
		}
		if len(nodes) > 1 {
			cut++
		}
		reached := make([]int, len(nodes))
		for _, p := range points {
			i, depth, e := tree.Leaf(got, p)
			if e != api.OK || depth > num.Log(n) {
				t.Fatal(got, p, i, depth, e)
			}
			reached[i]++
		}
		for i, n := range nodes {
			if n.Left == 0 && reached[i] != n.Size {
				t.Fatal(got, points, i, reached[i])
			}
		}
	}
	if failed < 500 || cut < 500 {
		t.Error("seldom tested:", failed, cut)
	}
}

// P10.5: there are points and draws that take as many draws as Most tells
func TestGrowTakesMost(t *testing.T) {
	for tries := 1; tries <= api.MaxTries; tries++ {
		var l []uint64
		for range 2 {
			for range tries - 1 {
				l = append(l, top)
			}
			l = append(l, 0)
		}
		// Three columns are open, and three numbers between the points: the greatest draw does not count for either.
		points := [][]int{{0, 0, 0}, {3, 3, 3}}
		if g, next, e := tree.Grow(api.KindAxis, points, l, 0, tries); len(g.Nodes) != 3 || next != tree.Most(api.KindAxis, 3, 2, tries) || e != api.OK {
			t.Error(tries, g, next, e)
		}
	}
	var points [][]int
	for i := range 64 {
		points = append(points, []int{i})
	}
	// The cuts in the middle: of 2^k points, there are 2^k - 1 places for a cut.
	var l []uint64
	var halve func(n uint64)
	halve = func(n uint64) {
		if n > 1 {
			l = append(l, 0, n/2-1)
			halve(n / 2)
			halve(n / 2)
		}
	}
	halve(64)
	if g, next, e := tree.Grow(api.KindAxis, points, l, 0, 1); len(g.Nodes) != api.MaxNodes || next != 126 || next != tree.Most(api.KindAxis, 1, 64, 1) || e != api.OK {
		t.Error(g, next, e)
	}
}

// P10.2, R3
func TestGrowIsNew(t *testing.T) {
	points, l := column(1, 5, 3, 9), make([]uint64, 50)
	a, _, _ := tree.Grow(api.KindAxis, points, l, 0, 1)
	b, _, _ := tree.Grow(api.KindAxis, points, l, 0, 1)
	if !tree.Same(a, b) {
		t.Error("the same arguments, another tree:", a, b)
	}
	want := copied(b)
	for i, n := range a.Nodes {
		a.Nodes[i].Size = 99
		if len(n.Cut.Coef) > 0 {
			n.Cut.Coef[0] = 98 + i
		}
	}
	if !tree.Same(b, want) || points[0][0] != 1 {
		t.Error("two answers share memory")
	}
	for i, n := range a.Nodes {
		if len(n.Cut.Coef) > 0 && n.Cut.Coef[0] != 98+i {
			t.Error("two nodes share memory:", i)
		}
	}
}

// P10.3
func TestLeaf(t *testing.T) {
	three := api.Tree{Dim: 1, Nodes: at(3, at(2, end(1), end(1)), end(1))}
	plane := api.Tree{Dim: 2, Nodes: fork([]int{1, -1}, -4, end(2), fork([]int{0, 2}, 11, end(1), fork([]int{-1, 0}, 0, end(1), end(3))))}
	for i, c := range []struct {
		g         api.Tree
		x         []int
		at, depth int
	}{
		{three, []int{1}, 2, 2}, {three, []int{2}, 3, 2}, {three, []int{3}, 4, 1}, {three, []int{api.LeastValue}, 2, 2}, {three, []int{api.MostValue}, 4, 1},
		{api.Tree{Dim: 1, Nodes: end(5)}, []int{7}, 0, 0}, {api.Tree{Dim: 8, Nodes: end(64)}, same(8, api.MostValue), 0, 0}, {api.Tree{Dim: 1, Nodes: full(6)}, []int{0}, 6, 6}, {api.Tree{Dim: 1, Nodes: full(6)}, []int{6}, 126, 6}, {api.Tree{Dim: 1, Nodes: full(2)}, []int{1}, 3, 2},
		{plane, []int{2, 7}, 1, 1}, {plane, []int{1, 5}, 3, 2}, {plane, []int{3, 6}, 5, 3}, {plane, []int{2, 6}, 5, 3}, {plane, []int{0, 4}, 3, 2}, {plane, []int{api.MostValue, 6}, 5, 3}, {plane, []int{-5, -6}, 3, 2},
	} {
		if got, depth, e := tree.Leaf(c.g, c.x); got != c.at || depth != c.depth || e != api.OK {
			t.Error(i, got, depth, e)
		}
	}
	right := api.Tree{Dim: 2, Nodes: fork([]int{0, 1}, 5, end(1), fork([]int{-1, 0}, 0, end(1), end(3)))}
	for x, want := range map[[2]int][2]int{{-1, 5}: {4, 2}, {0, 5}: {4, 2}, {1, 5}: {3, 2}, {1, 4}: {1, 1}} {
		if got, depth, e := tree.Leaf(right, x[:]); got != want[0] || depth != want[1] || e != api.OK {
			t.Error(x, got, depth, e)
		}
	}
	for _, g := range []api.Tree{{}, {Dim: 1}, {Dim: 2, Nodes: three.Nodes}, {Dim: 1, Nodes: three.Nodes[:4]}, {Dim: 1, Nodes: three.Nodes[1:]}, {Dim: 1, Nodes: []api.Node{{Left: 9, Right: 9, Size: 1}}}, {Dim: 1, Nodes: []api.Node{{Left: 1, Right: 0, Size: 1}, {Size: 1}}}, {Dim: 9, Nodes: end(1)}, {Dim: 0, Nodes: end(1)}} {
		for _, x := range [][]int{nil, {1}, {1, 2}, {most}, same(9, 1)} {
			if got, depth, e := tree.Leaf(g, x); got != 0 || depth != 0 || e != api.ErrTree {
				t.Error(g, x, got, depth, e)
			}
		}
	}
	for _, g := range []api.Tree{three, {Dim: 1, Nodes: end(5)}} {
		for _, x := range [][]int{nil, {}, {1, 2}, same(9, 1), {api.MostValue + 1}, {api.LeastValue - 1}, {most}, {least}} {
			if got, depth, e := tree.Leaf(g, x); got != 0 || depth != 0 || e != api.ErrVec {
				t.Error(g, x, got, depth, e)
			}
		}
	}
}

// P10.4
func TestMost(t *testing.T) {
	for i, c := range []struct{ kind, dim, points, tries, want int }{
		{api.KindPlane, 2, 3, 4, 88}, {api.KindAxis, 2, 3, 4, 16}, {0, 2, 3, 4, 16}, {3, 2, 3, 4, 16}, {least, 2, 3, 4, 16}, {most, 2, 3, 4, 16}, {0, 2, 0, 4, 0}, {api.KindPlane, 2, 0, 4, 0}, {api.KindPlane, 2, 1, 4, 0}, {api.KindAxis, 2, 1, 4, 0}, {api.KindAxis, 2, 2, 1, 2}, {api.KindPlane, 1, 2, 1, 4},
		{api.KindPlane, 0, 3, 4, 24}, {api.KindPlane, -1, 3, 4, 24}, {api.KindPlane, least, 3, 4, 24}, {api.KindPlane, 8, 3, 4, 280}, {api.KindPlane, 9, 3, 4, 280}, {api.KindPlane, most, 3, 4, 280}, {api.KindAxis, most, 3, 4, 16},
		{api.KindAxis, 2, -1, 4, 0}, {api.KindAxis, 2, least, 4, 0}, {api.KindAxis, 2, 64, 4, 504}, {api.KindAxis, 2, 65, 4, 504}, {api.KindAxis, 2, most, 4, 504}, {api.KindPlane, 2, 63, 4, 62 * 44},
		{api.KindAxis, 2, 3, 0, 0}, {api.KindAxis, 2, 3, -1, 0}, {api.KindPlane, 2, 3, least, 0}, {api.KindAxis, 2, 3, 64, 256}, {api.KindAxis, 2, 3, 65, 256}, {api.KindAxis, 2, 3, most, 256}, {api.KindPlane, 8, 64, 64, 63 * 32960}, {api.KindPlane, most, most, most, 2076480}, {api.KindPlane, least, least, least, 0},
	} {
		if got := tree.Most(c.kind, c.dim, c.points, c.tries); got != c.want {
			t.Error(i, got)
		}
	}
}
