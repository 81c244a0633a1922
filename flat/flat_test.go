package flat_test

import (
	"math/rand/v2"
	"slices"
	"testing"

	"copse/api"
	"copse/flat"
	"copse/harm"
	"copse/num"
	"copse/path"
	"copse/shape"
	"copse/tree"
)

const (
	least = -1 << 63
	most  = 1<<63 - 1
	unit  = api.Unit
)

// read is the trees with these texts.
func read(texts ...string) []api.Tree {
	var l []api.Tree
	for _, s := range texts {
		t, e := shape.Parse(s)
		if e != api.OK {
			panic(s)
		}
		l = append(l, t)
	}
	return l
}

// pack is a pack of l, which must be one that may be packed.
func pack(t *testing.T, l ...api.Tree) *flat.Pack {
	t.Helper()
	p, e := flat.Of(l...)
	if p == nil || e != api.OK {
		t.Fatal(l, e)
	}
	return p
}

// three is trees of two columns.
func three() []api.Tree {
	return read("2:(1 -1 < 10 4 1)", "2:(0 2 < 0 1 (-4 1 < 5 1 2))", "2:3")
}

// none is what is no tree.
func none() []api.Tree {
	wrong, plane, leaf := read("1:(1 < 10 4 1)")[0], read("2:(1 0 < 10 4 1)")[0], read("2:(1 0 < 10 4 1)")[0]
	wrong.Nodes[0].Right = most
	plane.Nodes[0].Cut.Coef[0] = 5
	leaf.Nodes[1].Size = 0
	return []api.Tree{{}, {Dim: 1}, {Dim: 2, Nodes: []api.Node{{}}}, {Nodes: []api.Node{{Size: 1}}}, {Dim: 9, Nodes: []api.Node{{Size: 1}}}, {Dim: -1, Nodes: []api.Node{{Size: 1}}}, {Dim: 2, Nodes: []api.Node{{Size: 65}}}, wrong, plane, leaf, {Dim: 2, Nodes: read("1:(1 < 10 4 1)")[0].Nodes}, {Dim: 2, Nodes: make([]api.Node, 1000)}}
}

// copied is l in memory of its own.
func copied(l []api.Tree) []api.Tree {
	l = slices.Clone(l)
	for i, t := range l {
		l[i].Nodes = slices.Clone(t.Nodes)
		for k, n := range t.Nodes {
			l[i].Nodes[k].Cut.Coef = slices.Clone(n.Cut.Coef)
		}
	}
	return l
}

// spoil changes all that is in the memory of t.
func spoil(t api.Tree) {
	nodes := t.Nodes[:cap(t.Nodes)]
	for k, n := range nodes {
		numbers(n.Cut.Coef)
		nodes[k] = api.Node{Left: 98}
	}
}

// numbers changes all that is in the memory of l.
func numbers(l []int) {
	l = l[:cap(l)]
	for i := range l {
		l[i] = 99
	}
}

// lists is all lists of f.
func lists(f api.Flat) [][]int {
	return [][]int{f.Starts, f.Coef, f.At, f.Left, f.Right, f.Add, f.Size}
}

// equal reports whether a and b are the same arrays.
func equal(a, b api.Flat) bool {
	return a.Dim == b.Dim && slices.EqualFunc(lists(a), lists(b), slices.Equal[[]int])
}

// cells is the arrays of l, by what the document says of them.
func cells(l []api.Tree) api.Flat {
	var f api.Flat
	for _, t := range l {
		start, depths := len(f.Size), shape.Depths(t)
		f.Dim, f.Starts = t.Dim, append(f.Starts, start)
		for i, n := range t.Nodes {
			if n.Left == 0 {
				f.Coef, f.At = append(f.Coef, make([]int, t.Dim)...), append(f.At, 0)
				f.Left, f.Right = append(f.Left, 0), append(f.Right, 0)
				f.Add = append(f.Add, depths[i]*unit+harm.Norm(n.Size))
			} else {
				f.Coef, f.At = append(f.Coef, n.Cut.Coef...), append(f.At, n.Cut.At)
				f.Left, f.Right = append(f.Left, start+n.Left), append(f.Right, start+n.Right)
				f.Add = append(f.Add, 0)
			}
			f.Size = append(f.Size, n.Size)
		}
	}
	return f
}

// holds fails if p is no pack of l.
func holds(t *testing.T, p *flat.Pack, l []api.Tree) {
	t.Helper()
	if p.Len() != len(l) || !equal(p.Cells(), cells(l)) {
		t.Fatal(p.Len(), p.Cells(), cells(l))
	}
	for i, want := range l {
		if got, e := p.Tree(i); !tree.Same(got, want) || e != api.OK {
			t.Fatal(i, got, want, e)
		}
	}
}

// P15.1: what the arrays are, number by number.
func TestCells(t *testing.T) {
	for i, c := range []struct {
		l    []api.Tree
		want api.Flat
	}{
		{nil, api.Flat{}},
		{[]api.Tree{}, api.Flat{}},
		{read("1:(1 < 3 2 1)"), api.Flat{Dim: 1, Starts: []int{0}, Coef: []int{1, 0, 0}, At: []int{3, 0, 0}, Left: []int{1, 0, 0}, Right: []int{2, 0, 0}, Add: []int{0, 2 * unit, unit}, Size: []int{3, 2, 1}}},
		{read("8:1"), api.Flat{Dim: 8, Starts: []int{0}, Coef: make([]int, 8), At: []int{0}, Left: []int{0}, Right: []int{0}, Add: []int{0}, Size: []int{1}}},
		{three(), api.Flat{
			Dim:    2,
			Starts: []int{0, 3, 8},
			Coef:   []int{1, -1, 0, 0, 0, 0, 0, 2, 0, 0, -4, 1, 0, 0, 0, 0, 0, 0},
			At:     []int{10, 0, 0, 0, 0, 5, 0, 0, 0},
			Left:   []int{1, 0, 0, 4, 0, 6, 0, 0, 0},
			Right:  []int{2, 0, 0, 5, 0, 7, 0, 0, 0},
			Add:    []int{0, unit + harm.Norm(4), unit, 0, unit, 0, 2 * unit, 3 * unit, harm.Norm(3)},
			Size:   []int{5, 4, 1, 4, 1, 3, 1, 2, 3},
		}},
		{read("1:64", "1:2"), api.Flat{Dim: 1, Starts: []int{0, 1}, Coef: []int{0, 0}, At: []int{0, 0}, Left: []int{0, 0}, Right: []int{0, 0}, Add: []int{harm.Norm(64), unit}, Size: []int{64, 2}}},
	} {
		p := pack(t, c.l...)
		if got := p.Cells(); !equal(got, c.want) || p.Len() != len(c.l) {
			t.Error(i, got)
		}
	}
}

// P15.1
func TestOf(t *testing.T) {
	for _, n := range []int{0, 1, 2, 5} {
		l := slices.Repeat(three(), n)
		holds(t, pack(t, l...), l)
	}
	full := slices.Repeat(three()[1:2], 16)
	holds(t, pack(t, full...), full)
	bare := api.Tree{Dim: 1, Nodes: []api.Node{{Size: 1, Cut: api.Cut{Coef: []int{}}}}}
	holds(t, pack(t, bare), []api.Tree{bare})
}

// P15.1, R2
func TestOfErrors(t *testing.T) {
	fails := func(want api.Errno, l ...api.Tree) {
		t.Helper()
		if p, e := flat.Of(l...); p != nil || e != want {
			t.Error(len(l), p, e)
		}
	}
	good, other := three()[1], read("1:1")[0]
	fails(api.ErrLong, slices.Repeat(three()[:1], 17)...)
	fails(api.ErrLong, slices.Repeat(three()[:1], 4000)...)
	fails(api.ErrLong, make([]api.Tree, 17)...)
	fails(api.ErrTree, make([]api.Tree, 16)...)
	fails(api.ErrTree, good, other)
	fails(api.ErrTree, other, good)
	fails(api.ErrTree, good, good, other)
	for _, n := range none() {
		fails(api.ErrTree, n)
		fails(api.ErrTree, n, n)
		fails(api.ErrTree, n, good)
		fails(api.ErrTree, good, n)
		fails(api.ErrTree, good, good, n, good)
		fails(api.ErrLong, slices.Repeat([]api.Tree{n}, 17)...)
	}
}

// P15.1, R2
func TestTreeNowhere(t *testing.T) {
	for n := range 4 {
		p := pack(t, three()[:n]...)
		for _, place := range []int{least, -2, -1, n, n + 1, 16, 17, most} {
			if got, e := p.Tree(place); !tree.Same(got, api.Tree{}) || e != api.ErrNone {
				t.Error(n, place, got, e)
			}
		}
	}
}

// P15.2, P15.5
func TestPut(t *testing.T) {
	g := read("2:(3 0 < 6 2 (0 3 < 1 2 2))")[0]
	for n := range 17 {
		for place := 0; place <= min(n, 15); place++ {
			want := slices.Repeat(three(), 6)[:n]
			p := pack(t, want...)
			want = append(want, g)[:max(n, place+1)]
			want[place] = g
			if e := p.Put(place, g); e != api.OK {
				t.Fatal(n, place, e)
			}
			holds(t, p, want)
		}
	}
	// The only tree may be replaced by one of another dimension.
	p := pack(t, g)
	for _, l := range [][]api.Tree{read("8:5"), read("1:(-1 < 0 1 1)"), read("2:7")} {
		if e := p.Put(0, l[0]); e != api.OK {
			t.Fatal(e)
		}
		holds(t, p, l)
	}
}

// P15.2, R2: and what was there stays.
func TestPutErrors(t *testing.T) {
	good, other := three()[1], read("1:1")[0]
	for _, n := range []int{0, 1, 2, 3, 15, 16} {
		want := slices.Repeat(three(), 6)[:n]
		p := pack(t, want...)
		fails := func(place int, g api.Tree, e api.Errno) {
			t.Helper()
			if got := p.Put(place, g); got != e {
				t.Error(n, place, g, got)
			}
			holds(t, p, want)
		}
		for _, g := range append(none(), good, other) {
			for _, place := range []int{least, -2, -1, n + 1, n + 2, 17, most} {
				fails(place, g, api.ErrArg)
			}
			for place := range n + 1 {
				switch {
				case place == 16:
					fails(place, g, api.ErrLong)
				case !tree.Is(g) || g.Dim == 1 && n > 1 || g.Dim == 1 && n == 1 && place == 1:
					fails(place, g, api.ErrTree)
				}
			}
		}
	}
}

// P15.3
func TestSum(t *testing.T) {
	for i, c := range []struct {
		l    []api.Tree
		x    []int
		want int
	}{
		{read("1:(1 < 3 2 1)"), []int{2}, 2 * unit}, {read("1:(1 < 3 2 1)"), []int{3}, unit}, {read("1:(1 < 3 2 1)"), []int{api.LeastValue}, 2 * unit}, {read("1:(1 < 3 2 1)"), []int{api.MostValue}, unit}, {read("1:(1 < 3 (1 < 2 1 1) 1)"), []int{1}, 2 * unit}, {read("1:(-1 < 3 2 1)"), []int{-3}, unit}, {read("1:(-1 < 3 2 1)"), []int{-2}, 2 * unit}, {read("1:1"), []int{0}, 0}, {read("1:64", "1:64", "1:2"), []int{0}, 2*harm.Norm(64) + unit},
		{three(), []int{10, 0}, unit + 2*unit + harm.Norm(3)}, {three(), []int{9, 0}, unit + harm.Norm(4) + 2*unit + harm.Norm(3)}, {three(), []int{-1, 1}, unit + harm.Norm(4) + 3*unit + harm.Norm(3)}, {three(), []int{9, -1}, unit + unit + harm.Norm(3)}, {three()[1:], []int{-1, 0}, 2*unit + harm.Norm(3)}, {three()[1:], []int{-2, 0}, 3*unit + harm.Norm(3)}, {slices.Repeat(three()[2:], 16), []int{1, 2}, 16 * harm.Norm(3)},
		{read("8:(4 4 4 4 4 4 4 4 < 68719476704 63 1)"), slices.Repeat([]int{api.MostValue}, 8), unit}, {read("8:(4 4 4 4 4 4 4 4 < 68719476705 63 1)"), slices.Repeat([]int{api.MostValue}, 8), unit + harm.Norm(63)}, {read("8:(4 4 4 4 4 4 4 4 < -68719476736 63 1)"), slices.Repeat([]int{api.LeastValue}, 8), unit}, {read("2:(1 0 < 137438953472 1 2)"), []int{api.MostValue, 0}, unit}, {read("2:(1 0 < -137438953472 1 2)"), []int{api.LeastValue, 0}, 2 * unit},
	} {
		p := pack(t, c.l...)
		if n, e := p.Sum(c.x); n != c.want || e != api.OK {
			t.Error(i, n, c.want, e)
		}
		if l, e := p.Batch([][]int{c.x, c.x}); !slices.Equal(l, []int{c.want, c.want}) || e != api.OK {
			t.Error(i, l, e)
		}
	}
}

// P15.3
func TestBatch(t *testing.T) {
	p := pack(t, three()...)
	want := []int{3*unit + harm.Norm(3), 2*unit + harm.Norm(3), 3*unit + harm.Norm(3)}
	if l, e := p.Batch([][]int{{10, 0}, {9, -1}, {10, 0}}); l[0] != want[0] || l[1] != want[1] || l[2] != want[2] || len(l) != 3 || e != api.OK {
		t.Error(l, e)
	}
	for _, l := range [][][]int{nil, {}} {
		if sums, e := p.Batch(l); len(sums) != 0 || e != api.OK {
			t.Error(sums, e)
		}
	}
	long := slices.Repeat([][]int{{9, -1}}, 5000)
	if sums, e := p.Batch(long); !slices.Equal(sums, slices.Repeat(want[1:2], 5000)) || e != api.OK {
		t.Error(len(sums), e)
	}
}

// P15.3, R2
func TestSumErrors(t *testing.T) {
	fails := func(p *flat.Pack, x []int, want api.Errno) {
		t.Helper()
		if n, e := p.Sum(x); n != 0 || e != want {
			t.Error(x, n, e)
		}
		good := slices.Repeat([]int{1}, p.Cells().Dim)
		for _, l := range [][][]int{{x}, {x, good}, {good, x}, {good, good, x, good}} {
			if sums, e := p.Batch(l); len(sums) != 0 || e != want {
				t.Error(l, sums, e)
			}
		}
	}
	empty := pack(t)
	for _, x := range [][]int{nil, {}, {1}, {1, 2}, {most}, make([]int, 8), make([]int, 9)} {
		fails(empty, x, api.ErrNone)
	}
	for _, l := range [][][]int{nil, {}} {
		if sums, e := empty.Batch(l); len(sums) != 0 || e != api.ErrNone {
			t.Error(sums, e)
		}
	}
	for n := 1; n <= 3; n++ {
		p := pack(t, three()[:n]...)
		for _, x := range [][]int{nil, {}, {1}, {1, 2, 3}, {api.MostValue + 1, 0}, {0, api.LeastValue - 1}, {most, 0}, {0, least}, make([]int, 9), make([]int, 100000)} {
			fails(p, x, api.ErrVec)
		}
	}
	p := pack(t, read("2:3")...)
	if p.Put(0, read("1:3")[0]) != api.OK {
		t.Fatal("not put")
	}
	fails(p, []int{1, 2}, api.ErrVec)
	if n, e := p.Sum([]int{1}); n != harm.Norm(3) || e != api.OK {
		t.Error(n, e)
	}
}

// P15.4
func TestNil(t *testing.T) {
	var p *flat.Pack
	if p.Len() != 0 || !equal(p.Cells(), api.Flat{}) {
		t.Error(p.Len(), p.Cells())
	}
	for _, place := range []int{least, -1, 0, 1, 16, 17, most} {
		if got, e := p.Tree(place); !tree.Same(got, api.Tree{}) || e != api.ErrShut {
			t.Error(place, got, e)
		}
		for _, g := range append(none(), three()...) {
			if e := p.Put(place, g); e != api.ErrShut {
				t.Error(place, g, e)
			}
		}
	}
	for _, x := range [][]int{nil, {1}, {1, 2}, {most}} {
		if n, e := p.Sum(x); n != 0 || e != api.ErrShut {
			t.Error(x, n, e)
		}
		for _, l := range [][][]int{nil, {}, {x}, {x, x}} {
			if sums, e := p.Batch(l); len(sums) != 0 || e != api.ErrShut {
				t.Error(l, sums, e)
			}
		}
	}
}

// R3: what was handed in may be changed later, and so may what was answered; a pack keeps neither.
func TestMemory(t *testing.T) {
	room := append(three(), three()...)
	p := pack(t, room[:3]...)
	g := read("2:(3 0 < 6 2 (0 3 < 1 2 2))")[0]
	if e := p.Put(1, g); e != api.OK || !slices.EqualFunc(room, slices.Repeat(three(), 2), tree.Same) {
		t.Fatal(e, "what was handed in was changed")
	}
	if !tree.Same(g, read("2:(3 0 < 6 2 (0 3 < 1 2 2))")[0]) {
		t.Fatal("what was put in was changed")
	}
	want := three()
	want[1] = copied([]api.Tree{g})[0]
	spoil(g)
	for i := range room {
		spoil(room[i])
		room[i].Dim = 7
	}
	holds(t, p, want)
	for i := range want {
		got, _ := p.Tree(i)
		for k := range got.Nodes {
			numbers(got.Nodes[k].Cut.Coef)
			for m, n := range got.Nodes[k+1:] {
				if !slices.Equal(n.Cut.Coef, want[i].Nodes[k+1+m].Cut.Coef) {
					t.Fatal("two nodes share memory")
				}
			}
		}
		spoil(got)
		holds(t, p, want)
	}
	arrays := lists(p.Cells())
	for i, l := range arrays {
		numbers(l)
		if !slices.EqualFunc(arrays[i+1:], lists(cells(want))[i+1:], slices.Equal[[]int]) {
			t.Fatal("two arrays share memory")
		}
	}
	holds(t, p, want)
	x := []int{10, 0}
	sums, _ := p.Batch([][]int{x, x})
	numbers(sums)
	if n, _ := p.Sum(x); n != 4*unit+harm.Norm(3) || !slices.Equal(x, []int{10, 0}) {
		t.Error(n, x)
	}
	holds(t, p, want)
}

// Two packs of the same trees go ways of their own.
func TestApart(t *testing.T) {
	l := three()
	a, b := pack(t, l...), pack(t, l...)
	if e := a.Put(0, l[2]); e != api.OK {
		t.Fatal(e)
	}
	holds(t, a, []api.Tree{l[2], l[1], l[2]})
	holds(t, b, l)
}

// grown is a tree of some of the points, by random draws.
func grown(t *testing.T, random *rand.Rand, points [][]int) api.Tree {
	kind := []int{api.KindAxis, api.KindPlane}[random.IntN(2)]
	draws := make([]uint64, tree.Most(kind, len(points[0]), len(points), 8))
	for i := range draws {
		draws[i] = random.Uint64()
	}
	got, _, e := tree.Grow(kind, points[:1+random.IntN(len(points))], draws, 0, 8)
	if e != api.OK {
		t.Fatal(e)
	}
	return got
}

// points is random ones of one dimension, many of them near each other.
func points(random *rand.Rand) [][]int {
	l := make([][]int, 1+random.IntN([]int{3, 10, 64}[random.IntN(3)]))
	dim, wide := 1+random.IntN(api.MaxDim), 1+random.IntN([]int{5, 1 << 31}[random.IntN(2)])
	for i := range l {
		for range dim {
			l[i] = append(l[i], random.IntN(wide)-wide/2)
		}
	}
	return l
}

// length is that of x in t, by the tree's own nodes.
func length(t api.Tree, x []int) int {
	at, depth := 0, 0
	for n := t.Nodes[at]; n.Left != 0; n = t.Nodes[at] {
		at = n.Right
		if product, _ := num.Dot(n.Cut.Coef, x); product < n.Cut.At {
			at = n.Left
		}
		depth++
	}
	return depth*unit + harm.Norm(t.Nodes[at].Size)
}

// P15.2, P15.3, P15.5
func TestOfMany(t *testing.T) {
	random := rand.New(rand.NewPCG(15, 1))
	replaced, added := 0, 0
	for range 200 {
		l := points(random)
		trees := make([]api.Tree, random.IntN(api.MaxTrees+1))
		for i := range trees {
			trees[i] = grown(t, random, l)
		}
		p := pack(t, trees...)
		for range 5 {
			g, place := grown(t, random, l), random.IntN(min(len(trees)+1, 16))
			if place == len(trees) {
				trees = append(trees, g)
				added++
			} else {
				trees[place] = g
				replaced++
			}
			if e := p.Put(place, g); e != api.OK {
				t.Fatal(e)
			}
			holds(t, p, trees)
		}
		sums := make([]int, len(l))
		for i, x := range l {
			for _, one := range trees {
				sums[i] += length(one, x)
			}
			n, e := p.Sum(x)
			m, _ := path.Sum(trees, x)
			if n != sums[i] || n != m || e != api.OK {
				t.Fatal(x, n, m, e)
			}
		}
		if got, e := p.Batch(l); !slices.Equal(got, sums) || e != api.OK {
			t.Fatal(got, sums, e)
		}
	}
	if replaced < 100 || added < 50 {
		t.Error("seldom tested:", replaced, added)
	}
}
