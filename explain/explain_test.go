package explain_test

import (
	"math/rand/v2"
	"slices"
	"testing"

	"copse/api"
	"copse/explain"
	"copse/num"
	"copse/path"
	"copse/shape"
	"copse/tree"
)

const (
	least = -1 << 63
	most  = 1<<63 - 1
	lo    = api.LeastValue
	hi    = api.MostValue
)

// read is the trees with these texts.
func read(texts ...string) []api.Tree {
	var l []api.Tree
	for _, s := range texts {
		t, e := shape.Parse(s)
		if e != api.OK {
			panic(s)
		}
		l = append(l, t)
	}
	return l
}

// none is what is no tree.
func none() []api.Tree {
	wrong, plane, leaf := read("1:(1 < 10 4 1)")[0], read("2:(1 0 < 10 4 1)")[0], read("2:(1 0 < 10 4 1)")[0]
	wrong.Nodes[0].Right = most
	plane.Nodes[0].Cut.Coef[0] = 5
	leaf.Nodes[1].Size = 0
	return []api.Tree{{}, {Dim: 1}, {Dim: 2, Nodes: []api.Node{{}}}, {Nodes: []api.Node{{Size: 1}}}, {Dim: 9, Nodes: []api.Node{{Size: 1}}}, {Dim: -1, Nodes: []api.Node{{Size: 1}}}, {Dim: 2, Nodes: []api.Node{{Size: 65}}}, wrong, plane, leaf, {Dim: 2, Nodes: read("1:(1 < 10 4 1)")[0].Nodes}, {Dim: 2, Nodes: make([]api.Node, 1000)}}
}

// same is n times this number.
func same(n, number int) []int {
	return slices.Repeat([]int{number}, n)
}

// row is what is told of a column: Steps, Lo, Hi.
type row [3]int

func whys(l []row) []api.Why {
	var why []api.Why
	for _, r := range l {
		why = append(why, api.Why{Steps: r[0], Lo: r[1], Hi: r[2]})
	}
	return why
}

// told is what explain tells of one tree.
type told struct {
	text string
	x    []int
	want []row
}

// single are ways through one tree.
func single() []told {
	return []told{
		{"1:(1 < 3 (1 < 2 1 1) 1)", []int{2}, []row{{2, 2, 2}}}, {"1:(1 < 3 (1 < 2 1 1) 1)", []int{9}, []row{{1, 3, hi}}}, {"1:(1 < 3 (1 < 2 1 1) 1)", []int{1}, []row{{2, lo, 1}}}, {"1:(1 < 3 (1 < 2 1 1) 1)", []int{3}, []row{{1, 3, hi}}}, {"1:(1 < 3 (1 < 2 1 1) 1)", []int{lo}, []row{{2, lo, 1}}}, {"1:(1 < 3 (1 < 2 1 1) 1)", []int{hi}, []row{{1, 3, hi}}},
		// A later step does not widen again what an earlier one left.
		{"1:(1 < 3 (1 < 9 1 1) 1)", []int{2}, []row{{2, lo, 2}}}, {"1:(1 < 3 1 (1 < -5 1 1))", []int{4}, []row{{2, 3, hi}}}, {"1:(1 < 3 1 (1 < 8 1 1))", []int{4}, []row{{2, 3, 7}}}, {"1:(1 < 9 (1 < 3 1 1) 1)", []int{2}, []row{{2, lo, 2}}},
		// 3 v < 10, 3 v >= 10, 3 v < -10, 3 v >= -10; and with -3.
		{"1:(3 < 10 1 1)", []int{0}, []row{{1, lo, 3}}}, {"1:(3 < 10 1 1)", []int{5}, []row{{1, 4, hi}}}, {"1:(3 < -10 1 1)", []int{-9}, []row{{1, lo, -4}}}, {"1:(3 < -10 1 1)", []int{0}, []row{{1, -3, hi}}}, {"1:(-3 < 10 1 1)", []int{0}, []row{{1, -3, hi}}}, {"1:(-3 < 10 1 1)", []int{-5}, []row{{1, lo, -4}}}, {"1:(-3 < -10 1 1)", []int{9}, []row{{1, 4, hi}}}, {"1:(-3 < -10 1 1)", []int{0}, []row{{1, lo, 3}}},
		// 3 v < 9, 3 v >= 9, and with -3: nothing is rounded.
		{"1:(3 < 9 1 1)", []int{0}, []row{{1, lo, 2}}}, {"1:(3 < 9 1 1)", []int{5}, []row{{1, 3, hi}}}, {"1:(-3 < 9 1 1)", []int{0}, []row{{1, -2, hi}}}, {"1:(-3 < 9 1 1)", []int{-5}, []row{{1, lo, -3}}},
		// What a cut is at may be beyond all values.
		{"1:(1 < 137438953472 1 1)", []int{5}, []row{{1, lo, hi}}}, {"1:(1 < -137438953472 1 1)", []int{5}, []row{{1, lo, hi}}}, {"1:(-1 < 137438953472 1 1)", []int{5}, []row{{1, lo, hi}}}, {"1:(-1 < -137438953472 1 1)", []int{5}, []row{{1, lo, hi}}}, {"1:(1 < 2147483648 1 1)", []int{hi}, []row{{1, lo, hi}}}, {"1:(1 < 2147483647 1 1)", []int{hi}, []row{{1, hi, hi}}}, {"1:(1 < 2147483647 1 1)", []int{0}, []row{{1, lo, hi - 1}}}, {"1:(1 < -2147483647 1 1)", []int{lo}, []row{{1, lo, lo}}}, {"1:(1 < -2147483648 1 1)", []int{lo}, []row{{1, lo, hi}}},
		// No steps; steps that test other columns; steps that are not on the way.
		{"1:1", []int{5}, []row{{0, lo, hi}}}, {"3:64", []int{5, lo, hi}, []row{{0, lo, hi}, {0, lo, hi}, {0, lo, hi}}}, {"3:(0 -2 0 < 7 1 (1 0 0 < 2 1 1))", []int{5, 0, 9}, []row{{0, lo, hi}, {1, -3, hi}, {0, lo, hi}}}, {"3:(0 -2 0 < 7 1 (1 0 0 < 2 1 1))", []int{5, -4, 9}, []row{{1, 2, hi}, {1, lo, -4}, {0, lo, hi}}},
		// 4 a - 3 b + c < 20, a >= -6, and 2 b - c < -1, or not.
		{"3:(4 -3 1 < 20 (1 0 0 < -6 1 (0 2 -1 < -1 1 2)) 1)", []int{1, 0, 3}, []row{{2, -6, 4}, {2, -4, 0}, {2, 2, 15}}}, {"3:(4 -3 1 < 20 (1 0 0 < -6 1 (0 2 -1 < -1 1 2)) 1)", []int{1, 2, 3}, []row{{2, -6, 5}, {2, 1, hi}, {2, lo, 5}}},
		{"8:(4 4 4 4 4 4 4 4 < 68719476704 63 1)", same(8, hi), slices.Repeat([]row{{1, hi, hi}}, 8)}, {"8:(4 4 4 4 4 4 4 4 < -68719476735 63 1)", same(8, lo), slices.Repeat([]row{{1, lo, lo}}, 8)}, {"8:(-4 -4 -4 -4 -4 -4 -4 -4 < 137438953472 63 1)", same(8, hi), slices.Repeat([]row{{1, lo, hi}}, 8)},
	}
}

// P16.1, P16.2, P16.3
func TestSingle(t *testing.T) {
	for _, c := range single() {
		one := read(c.text)[0]
		steps, e := explain.Steps(one, c.x)
		if len(steps) != len(c.want) || e != api.OK {
			t.Fatal(c.text, c.x, steps, e)
		}
		for i, w := range whys(c.want) {
			from, to, e := explain.Room(one, c.x, i)
			if steps[i] != w.Steps || from != w.Lo || to != w.Hi || e != api.OK {
				t.Error(c.text, c.x, i, steps[i], from, to, e)
			}
		}
		if why, e := explain.All([]api.Tree{one}, c.x); !slices.Equal(why, whys(c.want)) || e != api.OK {
			t.Error(c.text, c.x, why, e)
		}
	}
}

// P16.3
func TestAllAndMain(t *testing.T) {
	for i, c := range []struct {
		l    []api.Tree
		x    []int
		want []row
		main int
	}{
		{read("1:(1 < 3 1 1)", "1:(1 < 9 1 1)"), []int{5}, []row{{2, 3, 8}}, 0}, {read("1:(1 < 9 1 1)", "1:(1 < 3 1 1)"), []int{5}, []row{{2, 3, 8}}, 0}, {read("1:(1 < 3 1 1)", "1:7", "1:(1 < 4 1 1)"), []int{5}, []row{{2, 4, hi}}, 0}, {read("1:(1 < 8 1 1)", "1:(1 < 7 1 1)", "1:(1 < 9 1 1)"), []int{5}, []row{{3, lo, 6}}, 0}, {slices.Repeat(read("1:(1 < 3 (1 < 2 1 1) 1)"), 16), []int{2}, []row{{32, 2, 2}}, 0},
		{read("2:(0 1 < 3 1 1)"), []int{5, 5}, []row{{0, lo, hi}, {1, 3, hi}}, 1}, {read("2:(0 1 < 3 1 1)", "2:(1 0 < 9 1 1)"), []int{5, 5}, []row{{1, lo, 8}, {1, 3, hi}}, 0}, {read("2:(0 1 < 3 1 1)", "2:(1 1 < 9 1 1)"), []int{5, 5}, []row{{1, 4, hi}, {2, 4, hi}}, 1}, {read("2:(1 1 < 3 1 1)", "2:(1 -1 < 9 1 1)"), []int{5, 5}, []row{{2, -2, 13}, {2, -2, hi}}, 0},
		{read("4:(0 1 0 0 < 3 1 (0 0 -1 0 < -9 1 (0 0 1 0 < 9 1 2)))", "4:2", "4:(0 1 0 0 < 7 1 1)"), []int{5, 5, 5, 5}, []row{{0, lo, hi}, {2, 3, 6}, {2, lo, 8}, {0, lo, hi}}, 1},
		// In this tree the way of 5 does not test what the way of others does.
		{read("2:(1 0 < 6 1 (0 1 < 6 1 (0 1 < 9 1 2)))"), []int{5, 5}, []row{{1, lo, 5}, {0, lo, hi}}, 0}, {read("2:(1 0 < 6 1 (0 1 < 6 1 (0 1 < 9 1 2)))"), []int{6, 6}, []row{{1, 6, hi}, {2, 6, 8}}, 1},
	} {
		if why, e := explain.All(c.l, c.x); !slices.Equal(why, whys(c.want)) || e != api.OK {
			t.Error(i, why, e)
		}
		if n, e := explain.Main(c.l, c.x); n != c.main || e != api.OK {
			t.Error(i, n, e)
		}
	}
}

// P16.3
func TestMainNone(t *testing.T) {
	for dim, text := range []string{"1:1", "2:7", "8:64"} {
		x := make([]int, []int{1, 2, 8}[dim])
		for n := 1; n <= 16; n++ {
			l := slices.Repeat(read(text), n)
			if column, e := explain.Main(l, x); column != 0 || e != api.ErrNone {
				t.Error(text, n, column, e)
			}
			if why, e := explain.All(l, x); !slices.Equal(why, whys(slices.Repeat([]row{{0, lo, hi}}, len(x)))) || e != api.OK {
				t.Error(text, n, why, e)
			}
		}
	}
}

// P16.1, P16.2, R2
func TestSingleErrors(t *testing.T) {
	fails := func(one api.Tree, x []int, want api.Errno, columns ...int) {
		t.Helper()
		if steps, e := explain.Steps(one, x); len(steps) != 0 || e != want {
			t.Error(one, x, steps, e)
		}
		for _, column := range columns {
			if from, to, e := explain.Room(one, x, column); from != 0 || to != 0 || e != want {
				t.Error(one, x, column, from, to, e)
			}
		}
	}
	for _, n := range none() {
		for _, x := range [][]int{nil, {1}, {1, 2}, {most}} {
			fails(n, x, api.ErrTree, least, -1, 0, 1, 2, most)
		}
	}
	for _, x := range [][]int{nil, {}, {1}, {1, 2, 3}, {hi + 1, 0}, {0, lo - 1}, {most, 0}, {0, least}, make([]int, 9), make([]int, 100000)} {
		for _, one := range read("2:3", "2:(1 0 < 6 1 (0 1 < 6 1 (0 1 < 9 1 2)))") {
			fails(one, x, api.ErrVec, least, -1, 0, 1, 2, most)
		}
	}
	for dim, one := range read("1:(1 < 3 1 1)", "2:3", "3:(0 1 0 < 4 1 1)") {
		for _, column := range []int{least, -2, -1, dim + 1, dim + 2, 8, 9, most} {
			if from, to, e := explain.Room(one, make([]int, dim+1), column); from != 0 || to != 0 || e != api.ErrArg {
				t.Error(dim, column, from, to, e)
			}
		}
	}
}

// P16.3, R2
func TestAllErrors(t *testing.T) {
	fails := func(l []api.Tree, x []int) {
		t.Helper()
		_, want := path.Sum(l, x)
		if why, e := explain.All(l, x); len(why) != 0 || e != want || e == api.OK {
			t.Error(len(l), x, why, e)
		}
		if column, e := explain.Main(l, x); column != 0 || e != want || e == api.OK {
			t.Error(len(l), x, column, e)
		}
	}
	two, one := read("2:(1 0 < 6 1 1)")[0], read("1:3")[0]
	for _, x := range [][]int{nil, {}, {1}, {1, 2}, {most}, {0, least}} {
		fails(nil, x)
		fails([]api.Tree{}, x)
		fails(make([]api.Tree, 16), x)
		fails(make([]api.Tree, 17), x)
		fails(slices.Repeat([]api.Tree{two}, 17), x)
		fails(slices.Repeat([]api.Tree{one}, 17), x)
		fails([]api.Tree{one, two}, x)
		fails([]api.Tree{two, one}, x)
		fails([]api.Tree{two, two, one}, x)
		for _, n := range none() {
			fails([]api.Tree{n}, x)
			fails([]api.Tree{n, two}, x)
			fails([]api.Tree{two, n}, x)
			fails([]api.Tree{one, n}, x)
		}
	}
	for _, x := range [][]int{nil, {}, {1}, {1, 2, 3}, {hi + 1, 0}, {0, lo - 1}, {most, 0}, make([]int, 9)} {
		for _, n := range []int{1, 2, 16} {
			fails(slices.Repeat([]api.Tree{two}, n), x)
			// That no step tests a column is told of vectors only.
			fails(slices.Repeat(read("2:3"), n), x)
		}
	}
}

// way is the nodes that x passes in t.
func way(t api.Tree, x []int) []int {
	at := 0
	l := []int{at}
	for n := t.Nodes[at]; n.Left != 0; n = t.Nodes[at] {
		at = n.Right
		if product, _ := num.Dot(n.Cut.Coef, x); product < n.Cut.At {
			at = n.Left
		}
		l = append(l, at)
	}
	return l
}

// stays reports whether x goes the same ways through all of l with this value in the column.
func stays(l []api.Tree, x []int, column, value int) bool {
	other := slices.Clone(x)
	other[column] = value
	for _, t := range l {
		if !slices.Equal(way(t, x), way(t, other)) {
			return false
		}
	}
	return true
}

// grown is trees of some of the points, by random draws.
func grown(t *testing.T, random *rand.Rand, points [][]int) []api.Tree {
	l := make([]api.Tree, 1+random.IntN(api.MaxTrees))
	for i := range l {
		kind := []int{api.KindAxis, api.KindPlane}[random.IntN(2)]
		draws := make([]uint64, tree.Most(kind, len(points[0]), len(points), 8))
		for i := range draws {
			draws[i] = random.Uint64()
		}
		got, _, e := tree.Grow(kind, points[:1+random.IntN(len(points))], draws, 0, 8)
		if e != api.OK {
			t.Fatal(e)
		}
		l[i] = got
	}
	return l
}

// points is random ones of one dimension, many of them near each other, or at the ends.
func points(random *rand.Rand) [][]int {
	l := make([][]int, 1+random.IntN([]int{3, 10, 64}[random.IntN(3)]))
	dim, wide := 1+random.IntN(api.MaxDim), []int{5, 100, 1 << 31, 1 << 32}[random.IntN(4)]
	for i := range l {
		for range dim {
			l[i] = append(l[i], random.IntN(wide)-wide/2)
		}
	}
	return l
}

// counted is how many steps of x test each column of l, all together.
func counted(l []api.Tree, x []int) []int {
	steps := make([]int, len(x))
	for _, t := range l {
		for _, at := range way(t, x) {
			for i, c := range t.Nodes[at].Cut.Coef {
				if c != 0 {
					steps[i]++
				}
			}
		}
	}
	return steps
}

// P16.1, P16.2: by what single trees tell.
func together(t *testing.T, l []api.Tree, x []int) []api.Why {
	why := whys(slices.Repeat([]row{{0, lo, hi}}, len(x)))
	for _, one := range l {
		steps, e := explain.Steps(one, x)
		if !slices.Equal(steps, counted([]api.Tree{one}, x)) || e != api.OK {
			t.Fatal(one, x, steps, e)
		}
		for i := range why {
			from, to, e := explain.Room(one, x, i)
			if e != api.OK {
				t.Fatal(e)
			}
			why[i] = api.Why{Steps: why[i].Steps + steps[i], Lo: max(why[i].Lo, from), Hi: min(why[i].Hi, to)}
		}
	}
	return why
}

// P16.1 to P16.4, R3
func TestOfMany(t *testing.T) {
	random := rand.New(rand.NewPCG(16, 1))
	narrow, wide, single := 0, 0, 0
	for range 400 {
		l := points(random)
		trees, x := grown(t, random, l), slices.Clone(l[random.IntN(len(l))])
		kept, texts := slices.Clone(x), make([]string, len(trees))
		for i, one := range trees {
			texts[i] = shape.Text(one)
		}
		want, _ := path.Sum(trees, x)
		why, e := explain.All(trees, x)
		if !slices.Equal(why, together(t, trees, x)) || e != api.OK {
			t.Fatal(why, e)
		}
		steps := counted(trees, x)
		for i, w := range why {
			if w.Steps != steps[i] || w.Lo > x[i] || w.Hi < x[i] || w.Lo < lo || w.Hi > hi {
				t.Fatal(i, w, steps)
			}
			for _, v := range []int{w.Lo, w.Hi, w.Lo + random.IntN(w.Hi-w.Lo+1)} {
				other := slices.Clone(x)
				other[i] = v
				if sum, e := path.Sum(trees, other); sum != want || e != api.OK || !stays(trees, x, i, v) {
					t.Fatal(i, w, v, "is not in the room")
				}
			}
			for _, v := range []int{w.Lo - 1, w.Hi + 1} {
				if v >= lo && v <= hi && stays(trees, x, i, v) {
					t.Fatal(i, w, v, "is in the room")
				}
			}
			switch {
			case w.Lo == w.Hi:
				single++
			case w.Lo > lo && w.Hi < hi:
				narrow++
			case w.Lo == lo && w.Hi == hi:
				wide++
			}
		}
		column, e := explain.Main(trees, x)
		if most := slices.Max(steps); most == 0 && (column != 0 || e != api.ErrNone) || most > 0 && (column != slices.Index(steps, most) || e != api.OK) {
			t.Fatal(column, e, steps)
		}
		if !slices.Equal(x, kept) || !slices.EqualFunc(trees, texts, func(one api.Tree, text string) bool { return shape.Text(one) == text }) {
			t.Fatal("what was handed in was changed")
		}
	}
	if narrow < 100 || wide < 100 || single < 100 {
		t.Error("seldom tested:", narrow, wide, single)
	}
}

// P16.2: all values of small rooms, one by one.
func TestEveryValue(t *testing.T) {
	random := rand.New(rand.NewPCG(16, 2))
	for range 2000 {
		size := 1 + random.IntN(4)
		points := make([][]int, 2+random.IntN(20))
		for i := range points {
			for range size {
				points[i] = append(points[i], random.IntN(40)-20)
			}
		}
		trees, x := grown(t, random, points), points[random.IntN(len(points))]
		column := random.IntN(size)
		from, to, e := explain.Room(trees[0], x, column)
		if e != api.OK {
			t.Fatal(e)
		}
		for v := -60; v <= 60; v++ {
			if stays(trees[:1], x, column, v) != (from <= v && v <= to) {
				t.Fatal(shape.Text(trees[0]), x, column, from, to, v)
			}
		}
	}
}
