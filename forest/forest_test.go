package forest_test

import (
	"math/rand/v2"
	"slices"
	"testing"

	"copse/api"
	"copse/forest"
	"copse/harm"
	"copse/path"
	"copse/score"
	"copse/shape"
	"copse/tree"
)

const (
	least = -1 << 63
	most  = 1<<63 - 1
	count = 1 << 40
	unit  = api.Unit
)

// read is the tree with that text.
func read(text string) api.Tree {
	t, e := shape.Parse(text)
	if e != api.OK {
		panic(text)
	}
	return t
}

// of is trees with these texts, all grown at that event.
func of(born int, texts ...string) []api.Grown {
	var f []api.Grown
	for _, s := range texts {
		f = append(f, api.Grown{Tree: read(s), Born: born})
	}
	return f
}

// born is leaves of one point that were grown at these events.
func born(l ...int) []api.Grown {
	var f []api.Grown
	for _, n := range l {
		f = append(f, of(n, "1:1")...)
	}
	return f
}

// three is trees that were grown at the events 7, 5 and 9.
func three() []api.Grown {
	f := of(7, "1:(1 < 10 4 1)", "1:(1 < 0 1 (1 < 5 1 2))", "1:3")
	f[1].Born, f[2].Born = 5, 9
	return f
}

// copied is f in memory of its own.
func copied(f []api.Grown) []api.Grown {
	f = slices.Clone(f)
	for i, g := range f {
		f[i].Tree.Nodes = slices.Clone(g.Tree.Nodes)
		for k, n := range g.Tree.Nodes {
			f[i].Tree.Nodes[k].Cut.Coef = slices.Clone(n.Cut.Coef)
		}
	}
	return f
}

// spoil changes all that is in the memory of t.
func spoil(t api.Tree) {
	nodes := t.Nodes[:cap(t.Nodes)]
	for k, n := range nodes {
		coef := n.Cut.Coef[:cap(n.Cut.Coef)]
		for i := range coef {
			coef[i] = 99
		}
		nodes[k] = api.Node{Left: 98}
	}
}

// trees is what is no tree, and could be handed in as one.
func trees() []api.Tree {
	wrong, plane, leaf := read("1:(1 < 10 4 1)"), read("2:(1 0 < 10 4 1)"), read("1:(1 < 10 4 1)")
	wrong.Nodes[0].Right = most
	plane.Nodes[0].Cut.Coef[0] = 5
	leaf.Nodes[1].Size = 0
	return []api.Tree{{}, {Dim: 1}, {Dim: 1, Nodes: []api.Node{{}}}, {Nodes: []api.Node{{Size: 1}}}, {Dim: 9, Nodes: []api.Node{{Size: 1}}}, {Dim: -1, Nodes: []api.Node{{Size: 1}}}, {Dim: 1, Nodes: []api.Node{{Size: 65}}}, wrong, plane, leaf, {Dim: 2, Nodes: read("1:(1 < 10 4 1)").Nodes}, {Dim: 1, Nodes: make([]api.Node, 1000)}}
}

// none is what is no forest.
func none() [][]api.Grown {
	l := [][]api.Grown{born(-1), born(count + 1), born(least), born(most), born(3, -1), born(-1, 3), born(0, count+1, 0), slices.Repeat(born(3), 17), slices.Repeat(three(), 7), slices.Repeat(born(1), 4000), make([]api.Grown, 1), make([]api.Grown, 17), make([]api.Grown, 4000), of(1, "1:1", "2:1"), of(1, "2:1", "2:1", "1:1"), of(1, "8:1", "7:1")}
	for _, t := range trees() {
		g := api.Grown{Tree: t, Born: 3}
		l = append(l, []api.Grown{g}, []api.Grown{g, g}, append(three(), g), append([]api.Grown{g}, three()...), slices.Insert(three(), 1, g))
	}
	return l
}

// P14.1
func TestIs(t *testing.T) {
	for i, f := range [][]api.Grown{nil, {}, born(0), born(count), born(0, count, 5, 0), three(), slices.Repeat(three(), 5), slices.Repeat(born(3), 16), of(4, "8:1"), of(4, "2:(1 -1 < 3 1 1)", "2:2", "2:(0 1 < -7 1 1)")} {
		if !forest.Is(f) {
			t.Error(i)
		}
	}
	for i, f := range none() {
		if forest.Is(f) {
			t.Error(i)
		}
	}
}

// P14.1, R3: also of what is no forest.
func TestTrees(t *testing.T) {
	for i, f := range append(none(), nil, three(), slices.Repeat(three()[:1], 16)) {
		before := copied(f)
		l := forest.Trees(f)
		if len(l) != len(f) {
			t.Fatal(i, len(l))
		}
		for k, got := range l {
			if !tree.Same(got, before[k].Tree) {
				t.Fatal(i, k)
			}
			spoil(got)
		}
		if !forest.Same(f, before) {
			t.Fatal(i, "what was handed in was changed")
		}
	}
}

// P14.1
func TestOldest(t *testing.T) {
	for i, c := range []struct {
		f    []api.Grown
		want int
	}{
		{born(5, 3, 3), 1}, {born(5), 0}, {born(3, 3, 3), 0}, {born(9, 8, 7), 2}, {born(7, 8, 9), 0}, {born(count, count-1, count), 1}, {three(), 1},
		{born(0, -1, -1, 3), 1}, {born(most, least), 1}, {born(most), 0}, {born(most, most), 0}, {append(slices.Repeat(born(6), 100), born(5, 5)...), 100}, {make([]api.Grown, 3), 0}, {[]api.Grown{{Born: 2}, {Born: 1}, {Born: 2}}, 1},
	} {
		if at, ok := forest.Oldest(c.f); at != c.want || !ok {
			t.Error(i, at, ok)
		}
	}
	for _, f := range [][]api.Grown{nil, {}} {
		if at, ok := forest.Oldest(f); at != 0 || ok {
			t.Error(at, ok)
		}
	}
}

// P14.1
func TestSame(t *testing.T) {
	all := append(none(), nil, three(), born(1), born(2), born(1, 2), born(2, 1), born(1, 1), three()[:2], three()[1:], of(1, "1:2"), of(1, "2:1"), of(1, "1:(1 < 10 4 1)"), of(1, "1:(1 < 11 4 1)"), of(1, "1:(2 < 10 4 1)"), of(1, "1:(1 < 10 1 4)"), slices.Repeat(born(1), 16))
	for i, a := range all {
		for k, b := range all {
			if forest.Same(a, copied(b)) != (i == k) {
				t.Error(i, k)
			}
		}
	}
	if !forest.Same(nil, []api.Grown{}) || !forest.Same([]api.Grown{}, nil) {
		t.Error("nil is not as an empty one")
	}
	one, other := born(1), born(1)
	one[0].Tree.Nodes[0].Cut.Coef = []int{}
	if !forest.Same(one, other) || !forest.Same(other, one) {
		t.Error("nil is not as no coefficients")
	}
}

// P14.2, P14.4, R3
func TestPut(t *testing.T) {
	g := of(4, "1:(-2 < 6 2 (3 < 1 2 2))")[0]
	for i, f := range [][]api.Grown{nil, {}, born(3), three(), slices.Repeat(three()[:1], 15), slices.Repeat(three()[1:2], 16)} {
		for place := 0; place <= min(len(f), 15); place++ {
			room := append(copied(f), g, g)
			given, before, want := room[:len(f)], copied(room), append(copied(f), g)[:max(len(f), place+1)]
			want[place] = g
			got, e := forest.Put(given, place, copied([]api.Grown{g})[0])
			if !forest.Same(got, want) || e != api.OK || !forest.Is(got) {
				t.Fatal(i, place, e)
			}
			for k := range got {
				spoil(got[k].Tree)
				got[k].Born = -1
				if !forest.Same(got[k+1:], want[k+1:]) {
					t.Fatal(i, place, k, "two trees share memory")
				}
			}
			if !forest.Same(room, before) || !forest.Same([]api.Grown{g}, of(4, "1:(-2 < 6 2 (3 < 1 2 2))")) {
				t.Fatal(i, place, "what was handed in was changed")
			}
		}
	}
	// The only tree may be replaced by one of another dimension.
	if f, e := forest.Put(born(3), 0, of(0, "8:5")[0]); !forest.Same(f, of(0, "8:5")) || e != api.OK {
		t.Error(f, e)
	}
	if f, e := forest.Put(born(3), 1, born(count)[0]); !forest.Same(f, born(3, count)) || e != api.OK {
		t.Error(f, e)
	}
}

// P14.2, R2, R3: what was put in may be changed later.
func TestPutCopies(t *testing.T) {
	g := of(4, "1:(-2 < 6 2 (3 < 1 2 2))")[0]
	f := three()
	got, _ := forest.Put(f, 1, g)
	spoil(g.Tree)
	for i := range f {
		spoil(f[i].Tree)
		f[i].Born = -1
	}
	want := three()
	want[1] = of(4, "1:(-2 < 6 2 (3 < 1 2 2))")[0]
	if !forest.Same(got, want) {
		t.Error(got)
	}
}

// P14.2, R2
func TestPutErrors(t *testing.T) {
	fails := func(f []api.Grown, place int, g api.Grown, want api.Errno) {
		t.Helper()
		before := copied(f)
		if got, e := forest.Put(f, place, g); len(got) != 0 || e != want {
			t.Error(len(f), place, len(got), e)
		}
		if !forest.Same(f, before) {
			t.Error("what was handed in was changed")
		}
	}
	right, two := born(3)[0], of(3, "2:1")[0]
	wrong := []api.Grown{born(-1)[0], born(count + 1)[0], born(least)[0], born(most)[0]}
	for _, n := range trees() {
		wrong = append(wrong, api.Grown{Tree: n, Born: 3})
	}
	for _, f := range none() {
		for _, place := range []int{least, -1, 0, 1, len(f), len(f) + 1, 16, 17, most} {
			fails(f, place, right, api.ErrForest)
			fails(f, place, wrong[0], api.ErrForest)
		}
		// It stays none, even if what was wrong is replaced.
		fails(f, 0, f[len(f)-1], api.ErrForest)
	}
	for _, n := range []int{0, 1, 3, 15, 16} {
		f := slices.Repeat(three()[1:2], n)
		for _, place := range []int{least, -2, -1, n + 1, n + 2, 17, most} {
			fails(f, place, right, api.ErrArg)
			fails(f, place, two, api.ErrArg)
			fails(f, place, wrong[0], api.ErrArg)
		}
		for _, g := range append(wrong, two) {
			for place := range n + 1 {
				switch {
				case place == 16:
					fails(f, place, g, api.ErrLong)
				case g.Tree.Dim != 2 || n > 1 || place > 0:
					fails(f, place, g, api.ErrTree)
				}
			}
		}
	}
	fails(slices.Repeat(three()[1:2], 16), 16, right, api.ErrLong)
}

// P14.3
func TestScoreAndAlone(t *testing.T) {
	same := slices.Repeat(of(1, "1:(1 < 10 4 1)"), 16)
	for i, c := range []struct {
		f     []api.Grown
		x     []int
		want  api.Score
		alone int
	}{
		{three(), []int{3}, api.Score{P: unit + harm.Norm(4) + 2*unit + harm.Norm(3), Q: 3}, 1}, {three(), []int{11}, api.Score{P: unit + 3*unit + harm.Norm(3), Q: 3}, 1}, {three(), []int{5}, api.Score{P: unit + harm.Norm(4) + 3*unit + harm.Norm(3), Q: 3}, 0}, {three(), []int{-1}, api.Score{P: unit + harm.Norm(4) + unit + harm.Norm(3), Q: 3}, 1},
		{three()[2:], []int{5}, api.Score{P: harm.Norm(3), Q: 1}, 0}, {born(1), []int{5}, api.Score{P: 0, Q: 1}, 1}, {born(1, 2, 3, 4, 5), []int{api.LeastValue}, api.Score{P: 0, Q: 1}, 5}, {same, []int{10}, api.Score{P: unit, Q: 1}, 16}, {same, []int{9}, api.Score{P: unit + harm.Norm(4), Q: 1}, 0}, {same[:3], []int{api.MostValue}, api.Score{P: unit, Q: 1}, 3},
		{append(of(1, "1:2"), born(1, 1, 1)...), []int{0}, api.Score{P: unit / 4, Q: 1}, 3}, {append(of(1, "1:2"), born(1, 1)...), []int{0}, api.Score{P: unit, Q: 3}, 2}, {of(1, "2:(1 -1 < 3 1 1)", "2:(0 1 < 4 1 2)"), []int{5, 4}, api.Score{P: 3 * unit / 2, Q: 1}, 1},
	} {
		// Three parts may have a divisor in common.
		want, _ := score.Of(c.want.P, c.want.Q)
		if s, e := forest.Score(c.f, c.x); s != want || e != api.OK {
			t.Error(i, s, e)
		}
		if n, e := forest.Alone(c.f, c.x); n != c.alone || e != api.OK {
			t.Error(i, n, e)
		}
	}
}

// P14.3, R2
func TestScoreAndAloneErrors(t *testing.T) {
	fails := func(f []api.Grown, x []int, want api.Errno) {
		t.Helper()
		if s, e := forest.Score(f, x); s != (api.Score{}) || e != want {
			t.Error(len(f), x, s, e)
		}
		if n, e := forest.Alone(f, x); n != 0 || e != want {
			t.Error(len(f), x, n, e)
		}
	}
	for _, x := range [][]int{nil, {1}, {1, 2}, {most}} {
		for _, f := range none() {
			fails(f, x, api.ErrForest)
		}
		fails(nil, x, api.ErrNone)
		fails([]api.Grown{}, x, api.ErrNone)
	}
	for _, x := range [][]int{nil, {}, {1, 2}, {api.MostValue + 1}, {api.LeastValue - 1}, {most}, {least}, make([]int, 9), make([]int, 100000)} {
		for _, f := range [][]api.Grown{born(1), three(), slices.Repeat(born(1), 16)} {
			fails(f, x, api.ErrVec)
		}
	}
	fails(of(1, "2:1"), []int{1}, api.ErrVec)
	fails(of(1, "2:1"), []int{1, most}, api.ErrVec)
}

// P14.3
func TestAges(t *testing.T) {
	for i, c := range []struct {
		f    []api.Grown
		now  int
		want []int
	}{
		{three(), 9, []int{2, 4, 0}}, {three(), 100, []int{93, 95, 91}}, {three(), count, []int{count - 7, count - 5, count - 9}}, {born(0, count), count, []int{count, 0}}, {born(0), 0, []int{0}}, {nil, 0, nil}, {nil, count, nil}, {nil, -1, nil}, {[]api.Grown{}, least, nil}, {slices.Repeat(born(3), 16), 4, slices.Repeat([]int{1}, 16)},
	} {
		if l, e := forest.Ages(c.f, c.now); !slices.Equal(l, c.want) || e != api.OK {
			t.Error(i, l, e)
		}
	}
	for i, c := range []struct {
		f   []api.Grown
		now int
	}{{three(), 8}, {three(), 0}, {three(), -1}, {three(), least}, {born(7, 8), 7}, {born(8, 7), 7}, {born(0), -1}, {three(), count + 1}, {three(), most}, {nil, count + 1}, {nil, most}, {born(count), count - 1}, {born(count), count + 1}} {
		if l, e := forest.Ages(c.f, c.now); len(l) != 0 || e != api.ErrArg {
			t.Error(i, l, e)
		}
	}
	for i, f := range none() {
		for _, now := range []int{0, 9, count, -1, count + 1, least, most} {
			if l, e := forest.Ages(f, now); len(l) != 0 || e != api.ErrForest {
				t.Error(i, l, e)
			}
		}
	}
}

// grown is a forest of trees of points, by random draws.
func grown(t *testing.T, random *rand.Rand, points [][]int) []api.Grown {
	var f []api.Grown
	for range 1 + random.IntN(api.MaxTrees) {
		kind := []int{api.KindAxis, api.KindPlane}[random.IntN(2)]
		draws := make([]uint64, tree.Most(kind, len(points[0]), len(points), 8))
		for i := range draws {
			draws[i] = random.Uint64()
		}
		some := points[:1+random.IntN(len(points))]
		got, _, e := tree.Grow(kind, some, draws, 0, 8)
		if e != api.OK {
			t.Fatal(e)
		}
		f = append(f, api.Grown{Tree: got, Born: random.IntN(20)})
	}
	return f
}

// points is random ones of one dimension, many of them near each other.
func points(random *rand.Rand) [][]int {
	l := make([][]int, 1+random.IntN([]int{3, 10, 64}[random.IntN(3)]))
	dim, wide := 1+random.IntN(api.MaxDim), 1+random.IntN([]int{5, 1 << 31}[random.IntN(2)])
	for i := range l {
		for range dim {
			l[i] = append(l[i], random.IntN(wide)-wide/2)
		}
	}
	return l
}

// P14.3, P14.4, R3
func TestOfMany(t *testing.T) {
	random := rand.New(rand.NewPCG(14, 1))
	single, several := 0, 0
	for range 500 {
		l := points(random)
		f, x := grown(t, random, l), l[random.IntN(len(l))]
		before, kept := copied(f), slices.Clone(x)
		sum, alone, shortest, longest := 0, 0, most, 0
		for _, g := range f {
			n, _ := path.Length(g.Tree, x)
			lo, hi, _ := path.Ends(g.Tree)
			leaf, _, _ := tree.Leaf(g.Tree, x)
			sum, shortest, longest = sum+n, min(shortest, lo), max(longest, hi)
			if g.Tree.Nodes[leaf].Size == 1 {
				alone++
			}
		}
		want, _ := score.Of(sum, len(f))
		s, e := forest.Score(f, x)
		if s != want || s.P < shortest*s.Q || s.P > longest*s.Q || e != api.OK {
			t.Fatal(s, want, e)
		}
		if n, e := forest.Alone(f, x); n != alone || e != api.OK {
			t.Fatal(n, alone, e)
		}
		if !forest.Same(f, before) || !slices.Equal(x, kept) {
			t.Fatal("what was handed in was changed")
		}
		if alone > 0 && alone < len(f) {
			several++
		}
		if s.Q == 1 {
			single++
		}
	}
	if single < 50 || several < 50 {
		t.Error("seldom tested:", single, several)
	}
}
