package shape_test

import (
	"math/rand/v2"
	"slices"
	"testing"

	"copse/api"
	"copse/cut"
	"copse/num"
	"copse/shape"
	"copse/tree"
)

const (
	least = -1 << 63
	most  = 1<<63 - 1
)

// plant is a tree as it grows: what is to the left and to the right hangs on it.
type plant struct {
	coef        []int
	at          int
	left, right *plant
	size        int
}

// end is a leaf.
func end(size int) *plant {
	return &plant{size: size}
}

// fork is what a cut parts.
func fork(coef []int, at int, left, right *plant) *plant {
	return &plant{coef, at, left, right, left.size + right.size}
}

// at is what a cut by the only column parts.
func at(level int, left, right *plant) *plant {
	return fork([]int{1}, level, left, right)
}

// grown is a random plant of so many points, at that depth.
func grown(random *rand.Rand, dim, depth, limit, size int) *plant {
	if size == 1 || depth == limit || random.IntN(5) == 0 {
		return end(size)
	}
	coef := make([]int, dim)
	for i := range coef {
		coef[i] = random.IntN(9) - 4
	}
	coef[random.IntN(dim)] = 1 + random.IntN(4)
	level := []int{random.IntN(20) - 10, random.IntN(2*api.MaxReach+1) - api.MaxReach}[random.IntN(2)]
	left := 1 + random.IntN(size-1)
	return fork(coef, level, grown(random, dim, depth+1, limit, left), grown(random, dim, depth+1, limit, size-left))
}

// some is a random plant, and its dimension.
func some(random *rand.Rand) (*plant, int) {
	dim, size := 1+random.IntN(api.MaxDim), 1+random.IntN([]int{2, 8, 64}[random.IntN(3)])
	return grown(random, dim, 0, num.Log(size), size), dim
}

// told is what there is to know of a node of a plant.
type told struct {
	plant         *plant
	depth, parent int
}

// list is all nodes of a plant in their order, as told, behind those before it.
func (p *plant) list(before []told, depth, parent int) []told {
	index := len(before)
	before = append(before, told{p, depth, parent})
	if p.left == nil {
		return before
	}
	return p.right.list(p.left.list(before, depth+1, index), depth+1, index)
}

// tree is p as a tree.
func (p *plant) tree(dim int) api.Tree {
	l := p.list(nil, 0, -1)
	find := func(q *plant) int {
		return slices.IndexFunc(l, func(t told) bool { return t.plant == q })
	}
	t := api.Tree{Dim: dim}
	for _, n := range l {
		node := api.Node{Cut: api.Cut{Coef: slices.Clone(n.plant.coef), At: n.plant.at}, Size: n.plant.size}
		if n.plant.left != nil {
			node.Left, node.Right = find(n.plant.left), find(n.plant.right)
		}
		t.Nodes = append(t.Nodes, node)
	}
	return t
}

// way is the nodes of p that x passes.
func (p *plant) way(x []int) []*plant {
	l := []*plant{p}
	for p.left != nil {
		sum := 0
		for i, c := range p.coef {
			sum += c * x[i]
		}
		if sum < p.at {
			p = p.left
		} else {
			p = p.right
		}
		l = append(l, p)
	}
	return l
}

// pruned is p of which nothing is deeper than depth.
func (p *plant) pruned(depth int) *plant {
	if depth == 0 || p.left == nil {
		return end(p.size)
	}
	return fork(p.coef, p.at, p.left.pruned(depth-1), p.right.pruned(depth-1))
}

// full is a plant of all cuts down to a depth, each of whose leaves has one point.
func full(depth int) *plant {
	if depth == 0 {
		return end(1)
	}
	return at(depth, full(depth-1), full(depth-1))
}

// copied is t in memory of its own.
func copied(t api.Tree) api.Tree {
	t.Nodes = slices.Clone(t.Nodes)
	for i, n := range t.Nodes {
		t.Nodes[i].Cut.Coef = slices.Clone(n.Cut.Coef)
	}
	return t
}

// none is what is no tree.
func none() []api.Tree {
	c := api.Cut{Coef: []int{1}, At: 3}
	wrong := at(3, end(1), end(1)).tree(1)
	wrong.Nodes[0].Right = 1
	loop := at(3, end(1), end(1)).tree(1)
	loop.Nodes[2] = api.Node{Cut: c, Left: 0, Right: 1, Size: 1}
	return []api.Tree{
		{}, {Dim: 1}, {Dim: 0, Nodes: end(1).tree(1).Nodes}, {Dim: 9, Nodes: end(1).tree(1).Nodes}, {Dim: least, Nodes: end(1).tree(1).Nodes}, end(0).tree(1), end(65).tree(1), end(least).tree(1), at(3, end(1), end(1)).tree(2), at(3, end(1), end(0)).tree(1), full(7).tree(1), wrong, loop,
		at(1, end(1), at(2, end(1), at(3, end(1), end(1)))).tree(1), at(api.MaxReach+1, end(1), end(1)).tree(1), fork([]int{0}, 1, end(1), end(1)).tree(1), {Dim: 1, Nodes: full(3).tree(1).Nodes[:14]}, {Dim: 1, Nodes: []api.Node{{Cut: c, Left: most, Right: least, Size: 2}}}, {Dim: 1, Nodes: make([]api.Node, 100000)},
	}
}

// P11.1
func TestMeasures(t *testing.T) {
	for i, c := range []struct {
		plant                    *plant
		depths, parents, indices []int
	}{
		{end(1), []int{0}, []int{-1}, []int{0}}, {end(64), []int{0}, []int{-1}, []int{0}}, {at(3, end(1), end(1)), []int{0, 1, 1}, []int{-1, 0, 0}, []int{1, 2}},
		{at(3, at(2, end(1), end(1)), end(1)), []int{0, 1, 2, 2, 1}, []int{-1, 0, 1, 1, 0}, []int{2, 3, 4}}, {at(3, end(1), at(2, end(1), end(1))), []int{0, 1, 1, 2, 2}, []int{-1, 0, 0, 2, 2}, []int{1, 3, 4}},
		{at(6, at(5, at(4, at(3, at(2, at(1, end(1), end(1)), end(1)), end(1)), end(1)), end(1)), end(27)), []int{0, 1, 2, 3, 4, 5, 6, 6, 5, 4, 3, 2, 1}, []int{-1, 0, 1, 2, 3, 4, 5, 5, 4, 3, 2, 1, 0}, []int{6, 7, 8, 9, 10, 11, 12}},
	} {
		got := c.plant.tree(1)
		if d := shape.Depths(got); !slices.Equal(d, c.depths) || shape.Depth(got) != slices.Max(c.depths) {
			t.Error(i, d, shape.Depth(got))
		}
		if p := shape.Parents(got); !slices.Equal(p, c.parents) {
			t.Error(i, p)
		}
		if l := shape.Leaves(got); !slices.Equal(l, c.indices) {
			t.Error(i, l)
		}
	}
	for i, n := range none() {
		if shape.Depth(n) != 0 || len(shape.Depths(n)) != 0 || len(shape.Parents(n)) != 0 || len(shape.Leaves(n)) != 0 {
			t.Error("of what is no tree:", i)
		}
	}
}

// P11.1, R3
func TestMeasuresOfMany(t *testing.T) {
	random := rand.New(rand.NewPCG(11, 1))
	deep := 0
	for range 3000 {
		p, dim := some(random)
		got := p.tree(dim)
		before := copied(got)
		var depths, parents, leaves []int
		for i, n := range p.list(nil, 0, -1) {
			depths, parents = append(depths, n.depth), append(parents, n.parent)
			if n.plant.left == nil {
				leaves = append(leaves, i)
			}
		}
		if d := shape.Depths(got); !slices.Equal(d, depths) || shape.Depth(got) != slices.Max(depths) {
			t.Fatal(got, d, shape.Depth(got))
		}
		if l := shape.Parents(got); !slices.Equal(l, parents) {
			t.Fatal(got, l)
		}
		if l := shape.Leaves(got); !slices.Equal(l, leaves) {
			t.Fatal(got, l)
		}
		if slices.Max(depths) == 6 {
			deep++
		}
		if !tree.Same(got, before) {
			t.Fatal("what was handed in was changed")
		}
	}
	if deep < 100 {
		t.Error("seldom tested:", deep)
	}
}

// P11.2
func TestRoute(t *testing.T) {
	three := at(3, at(2, end(1), end(1)), end(1)).tree(1)
	for i, c := range []struct {
		tree api.Tree
		l    [][]int
		want []int
	}{
		{three, [][]int{{1}, {2}, {3}}, []int{3, 2, 1, 1, 1}}, {three, [][]int{{api.MostValue}}, []int{1, 0, 0, 0, 1}}, {three, [][]int{{api.LeastValue}, {1}, {1}}, []int{3, 3, 3, 0, 0}}, {three, nil, make([]int, 5)}, {three, [][]int{}, make([]int, 5)},
		{end(5).tree(1), [][]int{{1}, {2}}, []int{2}}, {end(5).tree(8), nil, []int{0}}, {three, slices.Repeat([][]int{{2}}, 3000), []int{3000, 3000, 0, 3000, 0}},
		{fork([]int{-1, 2}, 4, end(2), end(3)).tree(2), [][]int{{0, 2}, {0, 1}, {1, 2}, {-9, -9}}, []int{4, 3, 1}},
	} {
		if n, e := shape.Route(c.tree, c.l); !slices.Equal(n, c.want) || e != api.OK {
			t.Error(i, n, e)
		}
	}
}

// P11.2, R2
func TestRouteErrors(t *testing.T) {
	for i, n := range none() {
		for _, l := range [][][]int{nil, {{1}}, {{1, 2}}, {{}}, {{1}, {most}}} {
			if got, e := shape.Route(n, l); len(got) != 0 || e != api.ErrTree {
				t.Error(i, l, got, e)
			}
		}
	}
	two := fork([]int{1, 0}, 4, end(2), end(3)).tree(2)
	for _, l := range [][][]int{{nil}, {{}}, {{1}}, {{1, 2, 3}}, {{1, 2}, {1}}, {{1}, {1, 2}}, {{1, 2}, {1, api.MostValue + 1}}, {{1, 2}, {api.LeastValue - 1, 1}, {1, 2}}, {{1, 2}, nil}, {{most, least}}} {
		if got, e := shape.Route(two, l); len(got) != 0 || e != api.ErrVec {
			t.Error(l, got, e)
		}
	}
}

// vectors is random ones of which many lie near 0.
func vectors(random *rand.Rand, dim int) [][]int {
	l := make([][]int, random.IntN(30))
	for i := range l {
		for range dim {
			l[i] = append(l[i], []int{random.IntN(20) - 10, random.IntN(1<<32) + api.LeastValue, api.LeastValue, api.MostValue}[random.IntN(4)])
		}
	}
	return l
}

// P11.2, P11.3, P11.5, R3
func TestRouteAndPruneOfMany(t *testing.T) {
	random := rand.New(rand.NewPCG(11, 2))
	parted, less := 0, 0
	for range 3000 {
		p, dim := some(random)
		got, l := p.tree(dim), vectors(random, dim)
		before, depth := copied(got), random.IntN(7)
		count := map[*plant]int{}
		for _, x := range l {
			for _, q := range p.way(x) {
				count[q]++
			}
		}
		var want []int
		for _, n := range p.list(nil, 0, -1) {
			want = append(want, count[n.plant])
		}
		passed, e := shape.Route(got, l)
		if !slices.Equal(passed, want) || e != api.OK {
			t.Fatal(got, l, passed, e)
		}
		for i, n := range got.Nodes {
			if n.Left != 0 && passed[i] != passed[n.Left]+passed[n.Right] {
				t.Fatal(got, l, passed)
			} else if n.Left != 0 && passed[n.Left] > 0 && passed[n.Right] > 0 {
				parted++
			}
		}
		short, e := shape.Prune(got, depth)
		if !tree.Same(short, p.pruned(depth).tree(dim)) || !tree.Is(short) || e != api.OK {
			t.Fatal(got, depth, short, e)
		}
		if len(short.Nodes) < len(got.Nodes) {
			less++
		}
		for _, x := range l {
			leaf, far, _ := tree.Leaf(got, x)
			cutOff, near, _ := tree.Leaf(short, x)
			if near != min(far, depth) || (near == far && short.Nodes[cutOff].Size != got.Nodes[leaf].Size) {
				t.Fatal(got, depth, x, cutOff, near)
			}
		}
		if !tree.Same(got, before) {
			t.Fatal("what was handed in was changed")
		}
	}
	if parted < 1000 || less < 500 {
		t.Error("seldom tested:", parted, less)
	}
}

// P11.3
func TestPrune(t *testing.T) {
	uneven := at(3, at(2, end(1), at(2, end(3), end(4))), end(5))
	for i, c := range []struct {
		plant *plant
		depth int
		want  *plant
	}{
		{end(3), 0, end(3)}, {end(3), 7, end(3)}, {uneven, 0, end(13)}, {uneven, 1, at(3, end(8), end(5))}, {uneven, 2, at(3, at(2, end(1), end(7)), end(5))}, {uneven, 3, uneven}, {uneven, 4, uneven}, {uneven, 127, uneven}, {uneven, most, uneven}, {full(6), 6, full(6)}, {full(6), 5, full(6).pruned(5)},
		{at(3, end(5), at(2, at(2, end(3), end(4)), end(1))), 2, at(3, end(5), at(2, end(7), end(1)))}, {at(3, at(7, end(2), end(3)), at(2, at(2, end(3), end(4)), end(1))), 1, at(3, end(5), end(8))},
	} {
		if got, e := shape.Prune(c.plant.tree(1), c.depth); !tree.Same(got, c.want.tree(1)) || e != api.OK {
			t.Error(i, got, e)
		}
	}
}

// P11.3, R2
func TestPruneErrors(t *testing.T) {
	for i, n := range none() {
		for _, depth := range []int{0, 1, 9, -1, least, most} {
			if got, e := shape.Prune(n, depth); got.Dim != 0 || len(got.Nodes) != 0 || e != api.ErrTree {
				t.Error(i, depth, got, e)
			}
		}
	}
	for _, depth := range []int{-1, -2, least} {
		for _, p := range []*plant{end(1), full(6)} {
			if got, e := shape.Prune(p.tree(1), depth); got.Dim != 0 || len(got.Nodes) != 0 || e != api.ErrArg {
				t.Error(depth, got, e)
			}
		}
	}
}

// R3: what Prune and Parse answer is of new memory, and no two lists of it share any.
func TestNewMemory(t *testing.T) {
	before := at(3, at(2, end(1), end(1)), at(5, end(1), end(1))).tree(1)
	got, _ := shape.Prune(before, 9)
	read, _ := shape.Parse(shape.Text(before))
	for _, l := range []api.Tree{got, read} {
		want := copied(before)
		for i, n := range l.Nodes {
			if n.Left != 0 {
				_ = append(n.Cut.Coef, 99)
				n.Cut.Coef[0] = 4
				want.Nodes[i].Cut.Coef[0] = 4
				if !tree.Same(l, want) {
					t.Fatal("lists share memory")
				}
			}
		}
		if before.Nodes[0].Cut.Coef[0] != 1 {
			t.Fatal("what was handed in was changed")
		}
	}
	if left, e := cut.Left(before.Nodes[1].Cut, []int{1}); !left || e != api.OK {
		t.Error(left, e)
	}
}
