package path_test

import (
	"math/rand/v2"
	"slices"
	"testing"

	"copse/api"
	"copse/harm"
	"copse/num"
	"copse/path"
	"copse/tree"
)

const (
	least = -1 << 63
	most  = 1<<63 - 1
)

// end is the nodes of a leaf.
func end(size int) []api.Node {
	return []api.Node{{Size: size}}
}

// fork is the nodes of what a cut parts, which lie one after the other, as if the first one was the root.
func fork(coef []int, at int, left, right []api.Node) []api.Node {
	nodes := []api.Node{{Cut: api.Cut{Coef: coef, At: at}, Left: 1, Right: 1 + len(left), Size: left[0].Size + right[0].Size}}
	for _, side := range [][]api.Node{left, right} {
		from := len(nodes)
		for _, n := range side {
			if n.Left != 0 {
				n.Left, n.Right = n.Left+from, n.Right+from
			}
			nodes = append(nodes, n)
		}
	}
	return nodes
}

// at is what a cut by the only column parts.
func at(level int, left, right []api.Node) []api.Node {
	return fork([]int{1}, level, left, right)
}

// one is the tree of dimension 1 with these nodes.
func one(nodes []api.Node) api.Tree {
	return api.Tree{Dim: 1, Nodes: nodes}
}

// full is the nodes of all cuts down to a depth, each of whose leaves has so many points.
func full(depth, size int) []api.Node {
	if depth == 0 {
		return end(size)
	}
	return at(1<<depth, full(depth-1, size), full(depth-1, size))
}

// copied is t in memory of its own.
func copied(t api.Tree) api.Tree {
	t.Nodes = slices.Clone(t.Nodes)
	for i, n := range t.Nodes {
		t.Nodes[i].Cut.Coef = slices.Clone(n.Cut.Coef)
	}
	return t
}

// none is what is no tree.
func none() []api.Tree {
	wrong := one(at(3, end(1), end(1)))
	wrong.Nodes[0].Right = 1
	return []api.Tree{{}, {Dim: 1}, {Dim: 9, Nodes: end(1)}, {Dim: 0, Nodes: end(1)}, one(end(0)), one(end(65)), {Dim: 2, Nodes: at(3, end(1), end(1))}, one(at(3, end(1), end(0))), one(full(7, 1)), one(append(end(1), end(1)...)), one(full(3, 1)[:14]), wrong, one([]api.Node{{Cut: api.Cut{Coef: []int{1}, At: 3}, Left: most, Right: least, Size: 2}}), one(make([]api.Node, 100000))}
}

// uneven is a tree with leaves at depths 1, 2 and 3.
func uneven() api.Tree {
	return one(at(10, at(0, end(4), at(5, end(1), end(1))), end(2)))
}

const unit = api.Unit

// P12.1
func TestLengthAndTrail(t *testing.T) {
	two := api.Tree{Dim: 2, Nodes: fork([]int{-1, 2}, 4, end(2), fork([]int{0, 1}, 7, end(1), end(3)))}
	for i, c := range []struct {
		tree   api.Tree
		x      []int
		length int
		trail  []int
	}{
		{one(at(3, at(2, end(1), end(1)), end(1))), []int{2}, 2 * unit, []int{0, 1, 3}}, {one(at(3, end(2), end(1))), []int{2}, 2 * unit, []int{0, 1}}, {one(end(1)), []int{2}, 0, []int{0}}, {one(end(2)), []int{2}, unit, []int{0}}, {one(end(3)), []int{2}, 1789569706, []int{0}}, {one(end(64)), []int{api.LeastValue}, harm.Norm(64), []int{0}},
		{uneven(), []int{-1}, 2*unit + harm.Norm(4), []int{0, 1, 2}}, {uneven(), []int{0}, 3 * unit, []int{0, 1, 3, 4}}, {uneven(), []int{4}, 3 * unit, []int{0, 1, 3, 4}}, {uneven(), []int{5}, 3 * unit, []int{0, 1, 3, 5}}, {uneven(), []int{9}, 3 * unit, []int{0, 1, 3, 5}}, {uneven(), []int{10}, 2 * unit, []int{0, 6}}, {uneven(), []int{api.LeastValue}, 2*unit + harm.Norm(4), []int{0, 1, 2}}, {uneven(), []int{api.MostValue}, 2 * unit, []int{0, 6}},
		{one(full(6, 1)), []int{api.MostValue}, 6 * unit, []int{0, 64, 96, 112, 120, 124, 126}}, {one(full(6, 1)), []int{1}, 6 * unit, []int{0, 1, 2, 3, 4, 5, 6}}, {two, []int{0, 1}, 2 * unit, []int{0, 1}}, {two, []int{0, 2}, 2 * unit, []int{0, 2, 3}}, {two, []int{-9, 9}, 2*unit + harm.Norm(3), []int{0, 2, 4}},
	} {
		if n, e := path.Length(c.tree, c.x); n != c.length || e != api.OK {
			t.Error(i, n, e)
		}
		if l, e := path.Trail(c.tree, c.x); !slices.Equal(l, c.trail) || e != api.OK {
			t.Error(i, l, e)
		}
	}
}

// P12.1, R2
func TestLengthAndTrailErrors(t *testing.T) {
	fails := func(l api.Tree, x []int, want api.Errno) {
		t.Helper()
		if n, e := path.Length(l, x); n != 0 || e != want {
			t.Error(l, x, n, e)
		}
		if trail, e := path.Trail(l, x); len(trail) != 0 || e != want {
			t.Error(l, x, trail, e)
		}
	}
	for _, n := range none() {
		for _, x := range [][]int{nil, {1}, {1, 2}, {most}} {
			fails(n, x, api.ErrTree)
		}
	}
	for _, x := range [][]int{nil, {}, {1, 2}, {api.MostValue + 1}, {api.LeastValue - 1}, {most}, {least}, make([]int, 9), make([]int, 100000)} {
		for _, l := range []api.Tree{one(end(1)), uneven(), one(full(6, 1))} {
			fails(l, x, api.ErrVec)
		}
	}
}

// P12.1
func TestEndsAndWeight(t *testing.T) {
	for i, c := range []struct {
		tree           api.Tree
		lo, hi, weight int
	}{
		{one(end(1)), 0, 0, 0}, {one(end(2)), unit, unit, 2 * unit}, {one(end(64)), harm.Norm(64), harm.Norm(64), 64 * harm.Norm(64)}, {one(at(3, end(1), end(1))), unit, unit, 2 * unit}, {one(at(3, end(1), at(4, end(1), end(1)))), unit, 2 * unit, 5 * unit}, {one(at(3, at(4, end(1), end(1)), end(1))), unit, 2 * unit, 5 * unit}, {one(at(3, at(2, end(1), end(1)), at(4, end(1), end(1)))), 2 * unit, 2 * unit, 8 * unit},
		{uneven(), 2 * unit, 2*unit + harm.Norm(4), 4*(2*unit+harm.Norm(4)) + 6*unit + 4*unit}, {one(at(3, end(63), end(1))), unit, unit + harm.Norm(63), 63*(unit+harm.Norm(63)) + unit}, {one(full(6, 1)), 6 * unit, 6 * unit, 384 * unit}, {one(full(4, 4)), 4*unit + harm.Norm(4), 4*unit + harm.Norm(4), 64 * (4*unit + harm.Norm(4))},
	} {
		if lo, hi, e := path.Ends(c.tree); lo != c.lo || hi != c.hi || e != api.OK {
			t.Error(i, lo, hi, e)
		}
		if n, e := path.Weight(c.tree); n != c.weight || e != api.OK {
			t.Error(i, n, e)
		}
	}
	for i, n := range none() {
		if lo, hi, e := path.Ends(n); lo != 0 || hi != 0 || e != api.ErrTree {
			t.Error(i, lo, hi, e)
		}
		if n, e := path.Weight(n); n != 0 || e != api.ErrTree {
			t.Error(i, n, e)
		}
	}
}

// P12.2
func TestSum(t *testing.T) {
	three := one(at(3, at(2, end(1), end(1)), end(1)))
	for i, c := range []struct {
		l    []api.Tree
		x    []int
		want int
	}{
		{[]api.Tree{three}, []int{2}, 2 * unit}, {[]api.Tree{three, uneven()}, []int{2}, 5 * unit}, {[]api.Tree{uneven(), three}, []int{2}, 5 * unit}, {[]api.Tree{three, three, three}, []int{3}, 3 * unit}, {[]api.Tree{three, one(end(1)), one(end(64))}, []int{1}, 2*unit + harm.Norm(64)},
		{slices.Repeat([]api.Tree{one(full(4, 4))}, 16), []int{1}, 16 * (4*unit + harm.Norm(4))}, {[]api.Tree{{Dim: 8, Nodes: end(2)}, {Dim: 8, Nodes: end(2)}}, make([]int, 8), 2 * unit},
	} {
		if n, e := path.Sum(c.l, c.x); n != c.want || e != api.OK {
			t.Error(i, n, e)
		}
	}
}

// P12.2, R2
func TestSumErrors(t *testing.T) {
	fails := func(l []api.Tree, x []int, want api.Errno) {
		t.Helper()
		if n, e := path.Sum(l, x); n != 0 || e != want {
			t.Error(len(l), x, n, e)
		}
	}
	two := api.Tree{Dim: 2, Nodes: end(3)}
	for _, x := range [][]int{nil, {1}, {1, 2}, {most}} {
		fails(make([]api.Tree, 17), x, api.ErrLong)
		fails(slices.Repeat([]api.Tree{uneven()}, 17), x, api.ErrLong)
		fails(slices.Repeat([]api.Tree{uneven()}, 4000), x, api.ErrLong)
		fails(nil, x, api.ErrTree)
		fails([]api.Tree{}, x, api.ErrTree)
		fails(make([]api.Tree, 16), x, api.ErrTree)
		fails([]api.Tree{uneven(), two}, x, api.ErrTree)
		fails([]api.Tree{two, uneven()}, x, api.ErrTree)
		fails([]api.Tree{two, two, uneven()}, x, api.ErrTree)
		for _, n := range none() {
			fails([]api.Tree{n}, x, api.ErrTree)
			fails([]api.Tree{n, n}, x, api.ErrTree)
			fails([]api.Tree{n, uneven()}, x, api.ErrTree)
			fails([]api.Tree{uneven(), n}, x, api.ErrTree)
			fails([]api.Tree{uneven(), uneven(), n, uneven()}, x, api.ErrTree)
		}
	}
	for _, x := range [][]int{nil, {}, {1, 2}, {api.MostValue + 1}, {api.LeastValue - 1}} {
		for _, n := range []int{1, 2, 16} {
			fails(slices.Repeat([]api.Tree{uneven()}, n), x, api.ErrVec)
		}
	}
	fails([]api.Tree{two, two}, []int{1}, api.ErrVec)
	fails([]api.Tree{two, two}, []int{1, most}, api.ErrVec)
}

// points is random ones of one dimension, many of them equal or near each other.
func points(random *rand.Rand) [][]int {
	l := make([][]int, 1+random.IntN([]int{3, 10, 64}[random.IntN(3)]))
	dim, wide := 1+random.IntN(api.MaxDim), 1+random.IntN([]int{3, 1 << 31}[random.IntN(2)])
	for i := range l {
		for range dim {
			l[i] = append(l[i], random.IntN(wide)-wide/2)
		}
	}
	return l
}

// grown is a tree of points, by random draws.
func grown(t *testing.T, random *rand.Rand, l [][]int) api.Tree {
	kind := []int{api.KindAxis, api.KindPlane}[random.IntN(2)]
	draws := make([]uint64, tree.Most(kind, len(l[0]), len(l), 8))
	for i := range draws {
		draws[i] = random.Uint64()
	}
	got, _, e := tree.Grow(kind, l, draws, 0, 8)
	if e != api.OK {
		t.Fatal(e)
	}
	return got
}

// lengths is those of all leaves below node i, which is at that depth.
func lengths(t api.Tree, i, depth int) map[int]int {
	n := t.Nodes[i]
	if n.Left == 0 {
		return map[int]int{i: depth*unit + harm.Norm(n.Size)}
	}
	l := lengths(t, n.Left, depth+1)
	for i, length := range lengths(t, n.Right, depth+1) {
		l[i] = length
	}
	return l
}

// way is the nodes that x passes.
func way(t api.Tree, x []int) []int {
	i := 0
	l := []int{i}
	for n := t.Nodes[i]; n.Left != 0; n = t.Nodes[i] {
		i = n.Right
		if sum, _ := num.Dot(n.Cut.Coef, x); sum < n.Cut.At {
			i = n.Left
		}
		l = append(l, i)
	}
	return l
}

// P12.1, P12.3, R3
func TestOfMany(t *testing.T) {
	random := rand.New(rand.NewPCG(12, 1))
	deep, heavy := 0, 0
	for range 1500 {
		l := points(random)
		got := grown(t, random, l)
		before, all := copied(got), lengths(got, 0, 0)
		lo, hi, e := path.Ends(got)
		ordered := []int{}
		weight := 0
		for i, length := range all {
			ordered = append(ordered, length)
			weight += length * got.Nodes[i].Size
		}
		if lo != slices.Min(ordered) || hi != slices.Max(ordered) || e != api.OK {
			t.Fatal(got, lo, hi, e)
		}
		if n, e := path.Weight(got); n != weight || e != api.OK {
			t.Fatal(got, n, e)
		}
		sum := 0
		for _, x := range l {
			trail, e := path.Trail(got, x)
			if !slices.Equal(trail, way(got, x)) || e != api.OK {
				t.Fatal(got, x, trail, e)
			}
			n, e := path.Length(got, x)
			if n != all[trail[len(trail)-1]] || n < lo || n > hi || e != api.OK {
				t.Fatal(got, x, n, e)
			}
			sum += n
			if len(trail) == 7 {
				deep++
			}
		}
		if sum != weight {
			t.Fatal("not its weight:", sum, weight)
		}
		if weight > 64*4*unit {
			heavy++
		}
		if !tree.Same(got, before) {
			t.Fatal("what was handed in was changed")
		}
	}
	if deep < 1000 || heavy < 100 {
		t.Error("seldom tested:", deep, heavy)
	}
}

// P12.2, P12.3, R3
func TestSumOfMany(t *testing.T) {
	random := rand.New(rand.NewPCG(12, 2))
	for range 300 {
		l := points(random)
		trees := make([]api.Tree, 1+random.IntN(api.MaxTrees))
		for i := range trees {
			trees[i] = grown(t, random, l)
		}
		x := slices.Clone(l[random.IntN(len(l))])
		want := 0
		for _, one := range trees {
			n, _ := path.Length(one, x)
			want += n
		}
		before, kept := slices.Clone(trees), slices.Clone(x)
		if n, e := path.Sum(trees, x); n != want || n >= api.MaxSum || e != api.OK {
			t.Fatal(n, want, e)
		}
		if !slices.EqualFunc(trees, before, tree.Same) || !slices.Equal(x, kept) {
			t.Fatal("what was handed in was changed")
		}
		random.Shuffle(len(trees), func(i, j int) { trees[i], trees[j] = trees[j], trees[i] })
		if n, e := path.Sum(trees, x); n != want || e != api.OK {
			t.Fatal("by another order:", n, want, e)
		}
	}
}
