package cut_test

import (
	"math/big"
	"math/rand/v2"
	"slices"
	"testing"

	"copse/api"
	"copse/cut"
)

const (
	top   = 1<<64 - 1
	least = -1 << 63
	most  = 1<<63 - 1
)

// same is a list of n times this number.
func same(n, number int) []int {
	return slices.Repeat([]int{number}, n)
}

// wrong are lists that are no vectors of dimension 2.
func wrong() [][]int {
	return [][]int{nil, {}, {1}, {1, 2, 3}, same(9, 1), {api.LeastValue - 1, 0}, {0, api.LeastValue - 1}, {api.MostValue + 1, 0}, {0, api.MostValue + 1}, {least, 0}, {0, most}}
}

// uncut are no cuts of any dimension.
func uncut() []api.Cut {
	return []api.Cut{
		{}, {At: 1}, {Coef: []int{}}, {Coef: []int{0}}, {Coef: []int{0, 0}, At: 3}, {Coef: same(9, 1)}, {Coef: []int{5, 1}}, {Coef: []int{1, -5}}, {Coef: []int{least, 1}}, {Coef: []int{1, most}},
		{Coef: []int{1, 1}, At: api.MaxReach + 1}, {Coef: []int{1, 1}, At: -api.MaxReach - 1}, {Coef: []int{1, 1}, At: least}, {Coef: []int{1, 1}, At: most},
	}
}

// copies is l, which a call may not change.
func copies(l [][]int) [][]int {
	var c [][]int
	for _, v := range l {
		c = append(c, slices.Clone(v))
	}
	return c
}

func equal(a, b [][]int) bool {
	return slices.EqualFunc(a, b, slices.Equal[[]int])
}

// product is that of coefficients and a vector, which may have any numbers.
func product(c, v []int) int {
	sum := 0
	for i := range c {
		sum += c[i] * v[i]
	}
	return sum
}

// P9.1
func TestIs(t *testing.T) {
	for dim := -1; dim <= 10; dim++ {
		for n := range 11 {
			want := n == dim && dim >= 1 && dim <= api.MaxDim
			if cut.Is(api.Cut{Coef: same(n, 1), At: 5}, dim) != want {
				t.Errorf("%d coefficients in dimension %d: %v", n, dim, !want)
			}
			if cut.Is(api.Cut{Coef: same(n, 0), At: 5}, dim) {
				t.Errorf("%d times 0 in dimension %d", n, dim)
			}
		}
	}
	for at, want := range map[int]bool{
		0: true, 1: true, -1: true, api.MaxReach: true, -api.MaxReach: true, api.MaxReach + 1: false, -api.MaxReach - 1: false, most: false, least: false, 1 << 36: true, -1 << 36: true, 1 << 38: false,
	} {
		for _, coef := range [][]int{{1}, {-4}, {0, 1}, same(8, 4)} {
			if cut.Is(api.Cut{Coef: coef, At: at}, len(coef)) != want {
				t.Error(coef, at, !want)
			}
		}
	}
	for number := -6; number <= 6; number++ {
		if cut.Is(api.Cut{Coef: []int{number}}, 1) != (number != 0 && -4 <= number && number <= 4) || cut.Is(api.Cut{Coef: []int{1, number}}, 2) != (-4 <= number && number <= 4) {
			t.Error(number)
		}
	}
	for i, c := range uncut() {
		for dim := -1; dim <= 9; dim++ {
			if cut.Is(c, dim) {
				t.Error(i, dim)
			}
		}
	}
	if cut.Is(api.Cut{Coef: []int{1}}, most) || cut.Is(api.Cut{Coef: []int{1}}, least) {
		t.Error("a dimension that none has")
	}
}

// P9.1
func TestLeft(t *testing.T) {
	for i, c := range []struct {
		coef []int
		at   int
		x    []int
		want bool
	}{
		{[]int{1}, 3, []int{2}, true}, {[]int{1}, 3, []int{3}, false}, {[]int{1}, 3, []int{4}, false}, {[]int{-1}, 3, []int{-2}, true}, {[]int{-1}, 3, []int{-3}, false}, {[]int{1}, 0, []int{0}, false}, {[]int{1}, 0, []int{-1}, true},
		{[]int{0, 1}, 5, []int{9, 4}, true}, {[]int{0, 1}, 5, []int{1, 5}, false}, {[]int{1, -1}, -4, []int{2, 7}, true}, {[]int{1, -1}, -4, []int{1, 5}, false}, {[]int{2, 3}, 12, []int{3, 2}, false}, {[]int{2, 3}, 13, []int{3, 2}, true},
		{[]int{1}, api.MaxReach, []int{api.MostValue}, true}, {[]int{1}, -api.MaxReach, []int{api.LeastValue}, false}, {[]int{-4}, -4*api.MostValue + 1, []int{api.MostValue}, true}, {[]int{-4}, -4 * api.MostValue, []int{api.MostValue}, false},
		{same(8, -4), 1 << 36, same(8, api.LeastValue), false}, {same(8, -4), 1<<36 + 1, same(8, api.LeastValue), true}, {same(8, 4), -1 << 36, same(8, api.LeastValue), false}, {same(8, 4), -1<<36 + 1, same(8, api.LeastValue), true},
	} {
		if got, e := cut.Left(api.Cut{Coef: c.coef, At: c.at}, c.x); got != c.want || e != api.OK {
			t.Error(i, got, e)
		}
	}
	for i, c := range uncut() {
		for _, x := range append(wrong(), []int{0, 0}, c.Coef) {
			if got, e := cut.Left(c, x); got || e != api.ErrCut {
				t.Error("cut", i, x, got, e)
			}
		}
	}
	for _, at := range []int{0, 5, -5, api.MaxReach} {
		for i, x := range wrong() {
			if got, e := cut.Left(api.Cut{Coef: []int{1, -1}, At: at}, x); got || e != api.ErrVec {
				t.Error("vector", i, got, e)
			}
		}
	}
}

// P9.1, R3
func TestSplit(t *testing.T) {
	points := [][]int{{1, 5}, {3, 5}, {2, 7}, {-9, 0}, {3, 4}}
	for i, c := range []struct {
		c           api.Cut
		l           [][]int
		left, right []int
	}{
		{api.Cut{Coef: []int{1, 0}, At: 3}, points, []int{0, 2, 3}, []int{1, 4}}, {api.Cut{Coef: []int{0, 1}, At: 5}, points, []int{3, 4}, []int{0, 1, 2}}, {api.Cut{Coef: []int{1, -1}, At: -4}, points, []int{2, 3}, []int{0, 1, 4}},
		{api.Cut{Coef: []int{1, 0}, At: -9}, points, nil, []int{0, 1, 2, 3, 4}}, {api.Cut{Coef: []int{1, 0}, At: 4}, points, []int{0, 1, 2, 3, 4}, nil}, {api.Cut{Coef: []int{1, 0}, At: 4}, nil, nil, nil}, {api.Cut{Coef: []int{1, 0}, At: 4}, [][]int{}, nil, nil}, {api.Cut{Coef: []int{2}, At: 4}, [][]int{{2}, {1}, {2}, {1}}, []int{1, 3}, []int{0, 2}},
	} {
		given, coef := copies(c.l), slices.Clone(c.c.Coef)
		left, right, e := cut.Split(c.c, c.l)
		if !slices.Equal(left, c.left) || !slices.Equal(right, c.right) || e != api.OK {
			t.Error(i, left, right, e)
		}
		_ = append(left, 99)
		if !slices.Equal(right, c.right) || !equal(c.l, given) || !slices.Equal(c.c.Coef, coef) {
			t.Error(i, "what was handed in, or another result, was changed")
		}
	}
	fails := func(c api.Cut, l [][]int, want api.Errno) {
		if left, right, e := cut.Split(c, l); len(left) != 0 || len(right) != 0 || e != want {
			t.Error(c, l, left, right, e)
		}
	}
	for _, c := range uncut() {
		fails(c, points, api.ErrCut)
		fails(c, nil, api.ErrCut)
		fails(c, [][]int{nil}, api.ErrCut)
	}
	for _, x := range wrong() {
		c := api.Cut{Coef: []int{1, 0}, At: 3}
		fails(c, [][]int{x}, api.ErrVec)
		fails(c, [][]int{x, {1, 5}}, api.ErrVec)
		fails(c, [][]int{{1, 5}, {3, 5}, x}, api.ErrVec)
	}
	fails(api.Cut{Coef: []int{1}, At: 3}, points, api.ErrVec)
	fails(api.Cut{Coef: same(3, 1), At: 3}, points, api.ErrVec)
}

// P9.1
func TestSplitOfMany(t *testing.T) {
	random := rand.New(rand.NewPCG(9, 1))
	for range 1000 {
		dim := 1 + random.IntN(api.MaxDim)
		l, c := vectors(random, random.IntN(300), dim), api.Cut{Coef: make([]int, dim), At: random.IntN(9) - 4}
		for i := range dim {
			c.Coef[i] = random.IntN(9) - 4
		}
		c.Coef[random.IntN(dim)] = 1 + random.IntN(4)
		var sides [2][]int
		for i, x := range l {
			goes, e := cut.Left(c, x)
			if goes != (product(c.Coef, x) < c.At) || e != api.OK {
				t.Fatal(c, x, goes, e)
			}
			side := 1
			if goes {
				side = 0
			}
			sides[side] = append(sides[side], i)
		}
		left, right, e := cut.Split(c, l)
		if !slices.Equal(left, sides[0]) || !slices.Equal(right, sides[1]) || e != api.OK {
			t.Fatal(c, l, left, right, e)
		}
	}
}

// P9.1
func TestSame(t *testing.T) {
	cuts := append(uncut(), api.Cut{Coef: []int{1, 2}, At: 3}, api.Cut{Coef: []int{1, 2}, At: 4}, api.Cut{Coef: []int{1, 3}, At: 3}, api.Cut{Coef: []int{2, 2}, At: 3}, api.Cut{Coef: []int{1}, At: 3}, api.Cut{Coef: []int{1, 2, 3}, At: 3}, api.Cut{Coef: []int{1, 2, 0}, At: 3}, api.Cut{Coef: []int{2, 1}, At: 3}, api.Cut{Coef: []int{1, 2}, At: -3})
	for _, a := range cuts {
		for _, b := range cuts {
			b.Coef = slices.Clone(b.Coef)
			if want := slices.Equal(a.Coef, b.Coef) && a.At == b.At; cut.Same(a, b) != want {
				t.Error(a, b, !want)
			}
		}
	}
	if !cut.Same(api.Cut{At: 1}, api.Cut{Coef: []int{}, At: 1}) {
		t.Error("nil and the empty list")
	}
}

// P9.2
func TestDraw(t *testing.T) {
	points := [][]int{{1, 5}, {3, 5}, {2, 7}}
	line := [][]int{{1, 2}, {2, 1}, {4, -1}}
	wide := [][]int{{1, 6, 0, 9, 9}, {2, 6, 3, 9, 9}, {1, 6, 1, 9, 4}}
	for i, c := range []struct {
		kind      int
		list      [][]int
		l         []uint64
		at, tries int
		coef      []int
		level     int
		next      int
	}{
		{api.KindAxis, points[:2], []uint64{0, 1}, 0, 1, []int{1, 0}, 3, 2}, {api.KindAxis, points[:2], []uint64{0, 0}, 0, 1, []int{1, 0}, 2, 2}, {api.KindAxis, points[1:], []uint64{0, 0}, 0, 1, []int{1, 0}, 3, 2}, {api.KindAxis, points[1:], []uint64{1, 1}, 0, 1, []int{0, 1}, 7, 2}, {api.KindAxis, points[1:], []uint64{9, 9, 7, 8}, 2, 64, []int{0, 1}, 6, 4},
		{api.KindAxis, wide, []uint64{0, 0}, 0, 1, []int{1, 0, 0, 0, 0}, 2, 2}, {api.KindAxis, wide, []uint64{1, 2}, 0, 1, []int{0, 0, 1, 0, 0}, 3, 2}, {api.KindAxis, wide, []uint64{2, 4}, 0, 1, []int{0, 0, 0, 0, 1}, 9, 2}, {api.KindAxis, wide, []uint64{top, 5, top, 5}, 0, 2, []int{0, 0, 0, 0, 1}, 5, 4},
		{api.KindAxis, [][]int{{api.LeastValue}, {api.MostValue}}, []uint64{0, 0}, 0, 1, []int{1}, api.LeastValue + 1, 2}, {api.KindAxis, [][]int{{api.MostValue}, {api.LeastValue}}, []uint64{0, 1<<32 - 2}, 0, 1, []int{1}, api.MostValue, 2}, {api.KindAxis, [][]int{{api.MostValue}, {api.LeastValue}}, []uint64{0, 1<<32 - 1}, 0, 1, []int{1}, api.LeastValue + 1, 2},
		// A plane: parts of -4 and 4; then 0 and 0, drawn once more; then 1 and 1, which split nothing of a line, so that a column is drawn behind them.
		{api.KindPlane, points, []uint64{0, 8, 0}, 0, 1, []int{-4, 4}, 9, 3}, {api.KindPlane, points, []uint64{0, 8, 11, 1}, 0, 1, []int{-4, 4}, 20, 3}, {api.KindPlane, points, []uint64{4, 4, 0, 8, 0}, 0, 2, []int{-4, 4}, 9, 5}, {api.KindPlane, points, []uint64{7, top, 0, 8, top, 2}, 1, 2, []int{-4, 4}, 11, 6},
		{api.KindPlane, line, []uint64{5, 5, 1, 0}, 0, 1, []int{0, 1}, 0, 4}, {api.KindPlane, line, []uint64{3, 3, 2, 2}, 0, 1, []int{1, 0}, 4, 4}, {api.KindPlane, line, []uint64{5, 4, 0}, 0, 1, []int{1, 0}, 2, 3}, {api.KindPlane, line, []uint64{7, 4, 0}, 0, 1, []int{3, 0}, 4, 3}, {api.KindPlane, line, []uint64{4, 4, 8, 8, 0, top, 0}, 0, 2, []int{1, 0}, 2, 7},
		{api.KindPlane, points[:2], []uint64{4, 6, 0, 0}, 0, 1, []int{1, 0}, 2, 4}, {api.KindPlane, [][]int{{3}, {4}}, []uint64{0, 1}, 0, 1, []int{-4}, -14, 2}, {api.KindPlane, [][]int{same(8, api.LeastValue), same(8, api.MostValue)}, []uint64{8, 8, 8, 8, 8, 8, 8, 8, 0}, 0, 1, same(8, 4), -1<<36 + 1, 9}, {api.KindPlane, [][]int{same(8, api.LeastValue), same(8, api.MostValue)}, []uint64{0, 0, 0, 0, 0, 0, 0, 0, 0}, 0, 1, same(8, -4), -1<<36 + 33, 9},
	} {
		got, next, ok, e := cut.Draw(c.kind, c.list, c.l, c.at, c.tries)
		if !slices.Equal(got.Coef, c.coef) || got.At != c.level || next != c.next || !ok || e != api.OK {
			t.Error(i, got, next, ok, e)
		}
	}
}

// P9.2
func TestDrawOfEqualVectors(t *testing.T) {
	for _, kind := range []int{api.KindAxis, api.KindPlane} {
		for _, at := range []int{0, 1, 9, most} {
			for _, list := range [][][]int{{{1}}, {{1, 2}, {1, 2}}, {same(8, api.LeastValue), same(8, api.LeastValue), same(8, api.LeastValue)}} {
				if c, next, ok, e := cut.Draw(kind, list, []uint64{1, 2, 3}, at, 64); len(c.Coef) != 0 || c.At != 0 || next != at || ok || e != api.OK {
					t.Error(kind, at, list, c, next, ok, e)
				}
			}
		}
	}
}

// P9.2, R2
func TestDrawErrors(t *testing.T) {
	points := [][]int{{1, 5}, {3, 5}, {2, 7}}
	equals := [][]int{{1, 5}, {1, 5}}
	columns := [][]int{{1, 5, 0}, {4, 8, 3}}
	fails := func(kind int, list [][]int, l []uint64, at, tries int, want api.Errno) {
		t.Helper()
		if c, next, ok, e := cut.Draw(kind, list, l, at, tries); len(c.Coef) != 0 || c.At != 0 || next != 0 || ok || e != want {
			t.Error(kind, list, l, at, tries, c, next, ok, e)
		}
	}
	for _, list := range [][][]int{points, equals, nil, {{}}, {{1}, {1, 2}}} {
		for _, l := range [][]uint64{nil, {1, 1, 1, 1, 1}} {
			for _, kind := range []int{0, 3, -1, least, most} {
				fails(kind, list, l, 0, 1, api.ErrArg)
			}
			for _, kind := range []int{api.KindAxis, api.KindPlane} {
				for _, at := range []int{-1, least} {
					fails(kind, list, l, at, 1, api.ErrArg)
				}
				for _, tries := range []int{0, -1, 65, least, most} {
					fails(kind, list, l, 0, tries, api.ErrArg)
				}
			}
		}
	}
	for _, kind := range []int{api.KindAxis, api.KindPlane} {
		for _, l := range [][]uint64{nil, {1, 1, 1, 1, 1}} {
			for _, v := range wrong() {
				fails(kind, [][]int{v, {1, 2}}, l, 0, 1, api.ErrVec)
				fails(kind, [][]int{{1, 2}, v}, l, 0, 1, api.ErrVec)
				fails(kind, [][]int{{1, 2}, {1, 2}, v}, l, 0, 1, api.ErrVec)
			}
			for _, list := range [][][]int{nil, {}, {nil}, {{}, {}}, {same(9, 1)}, {same(9, 1), same(9, 2)}, {{most}}, {{1}, {1, 2}}} {
				fails(kind, list, l, 0, 1, api.ErrVec)
			}
		}
		fails(kind, points, nil, 0, 1, api.ErrDraws)
		fails(kind, points, []uint64{1}, 0, 1, api.ErrDraws)
		fails(kind, points, []uint64{1, 1, 1, 1}, 4, 1, api.ErrDraws)
		fails(kind, points, []uint64{1, 1, 1, 1}, most, 1, api.ErrDraws)
		fails(kind, columns, []uint64{top, top}, 0, 2, api.ErrTries)
		fails(kind, columns, []uint64{top, top}, 0, 3, api.ErrDraws)
	}
	// The column is drawn, its At is not.
	fails(api.KindAxis, columns, []uint64{1, top, top}, 0, 2, api.ErrTries)
	fails(api.KindAxis, columns, []uint64{1, top, top}, 0, 3, api.ErrDraws)
	fails(api.KindAxis, points[:2], []uint64{0, 0}[:1], 0, 1, api.ErrDraws)
	// Coefficients; those of 0 alone; the At of a plane; a column behind a plane that splits nothing, and its At.
	line := [][]int{{1, 2}, {4, -1}}
	fails(api.KindPlane, points, []uint64{5, top}, 0, 1, api.ErrTries)
	fails(api.KindPlane, points, []uint64{4, 4, 4, 4, 5, 5, 0}, 0, 2, api.ErrTries)
	fails(api.KindPlane, points, []uint64{4, 4, 4, 4}, 0, 3, api.ErrDraws)
	fails(api.KindPlane, points, []uint64{0, 8}, 0, 1, api.ErrDraws)
	fails(api.KindPlane, points, []uint64{0, 8, top}, 0, 1, api.ErrTries)
	fails(api.KindPlane, line, []uint64{5, 5}, 0, 1, api.ErrDraws)
	fails(api.KindPlane, line, []uint64{5, 5, 0}, 0, 1, api.ErrDraws)
	fails(api.KindPlane, line, []uint64{5, 5, 0, top}, 0, 1, api.ErrTries)
	fails(api.KindPlane, [][]int{{1, 2, -3}, {4, 2, -6}, {3, 0, -3}}, []uint64{5, 5, 5, top}, 0, 1, api.ErrTries)
}

// bounded is a number below n by the draws of l, as chapter 6 says it.
func bounded(l []uint64, at, n, tries int) (int, int, api.Errno) {
	power, size := new(big.Int).Lsh(big.NewInt(1), 64), big.NewInt(int64(n))
	counting := new(big.Int).Sub(power, new(big.Int).Mod(power, size))
	for range tries {
		if at >= len(l) {
			return 0, 0, api.ErrDraws
		}
		d := new(big.Int).SetUint64(l[at])
		at++
		if d.Cmp(counting) < 0 {
			return int(d.Mod(d, size).Int64()), at, api.OK
		}
	}
	return 0, 0, api.ErrTries
}

// plane is coefficients by the draws of l, as chapter 7 says it.
func plane(l []uint64, at, dim, tries int) ([]int, int, api.Errno) {
	for range tries {
		c := make([]int, dim)
		for i := range c {
			n, next, e := bounded(l, at, 2*api.MaxCoef+1, tries)
			if e != api.OK {
				return nil, 0, e
			}
			c[i], at = n-api.MaxCoef, next
		}
		if !slices.Equal(c, make([]int, dim)) {
			return c, at, api.OK
		}
	}
	return nil, 0, api.ErrTries
}

// reached is the least product of list with c, and how far the greatest one is above it.
func reached(c []int, list [][]int) (int, int) {
	var products []int
	for _, v := range list {
		products = append(products, product(c, v))
	}
	return slices.Min(products), slices.Max(products) - slices.Min(products)
}

// drawn is what Draw has to answer for arguments that may be asked.
func drawn(kind int, list [][]int, l []uint64, at, tries int) (api.Cut, int, bool, api.Errno) {
	dim := len(list[0])
	var units [][]int
	for i := range dim {
		unit := make([]int, dim)
		unit[i] = 1
		if _, width := reached(unit, list); width > 0 {
			units = append(units, unit)
		}
	}
	if len(units) == 0 {
		return api.Cut{}, at, false, api.OK
	}
	coef, width := []int(nil), 0
	if kind == api.KindPlane {
		c, next, e := plane(l, at, dim, tries)
		if e != api.OK {
			return api.Cut{}, 0, false, e
		}
		coef, at = c, next
		_, width = reached(coef, list)
	}
	if width == 0 {
		n, next, e := bounded(l, at, len(units), tries)
		if e != api.OK {
			return api.Cut{}, 0, false, e
		}
		coef, at = units[n], next
	}
	from, width := reached(coef, list)
	n, next, e := bounded(l, at, width, tries)
	if e != api.OK {
		return api.Cut{}, 0, false, e
	}
	return api.Cut{Coef: coef, At: from + 1 + n}, next, true, api.OK
}

// vectors are n of dimension dim; few numbers are between their ends, so that they meet.
func vectors(random *rand.Rand, n, dim int) [][]int {
	numbers := []int{api.LeastValue, api.MostValue, 0, 1, 2, 3, int(int32(random.Uint32()))}
	first := random.IntN(len(numbers))
	numbers = numbers[first : first+1+random.IntN(len(numbers)-first)]
	l := make([][]int, n)
	for i := range l {
		for range dim {
			l[i] = append(l[i], numbers[random.IntN(len(numbers))])
		}
	}
	return l
}

// some are n draws, of which some do not count for most bounds, and many give the same coefficient.
func some(random *rand.Rand, n int) []uint64 {
	same := uint64(random.IntN(9))
	l := make([]uint64, n)
	for i := range l {
		l[i] = []uint64{top, 4, same, same, same, same, uint64(random.IntN(20)), random.Uint64()}[random.IntN(8)]
	}
	return l
}

// P9.2, P9.3, R3
func TestDrawOfMany(t *testing.T) {
	random := rand.New(rand.NewPCG(9, 2))
	seen := map[string]int{}
	for range 20000 {
		dim := 1 + random.IntN(api.MaxDim)
		list, l := vectors(random, 1+random.IntN(8), dim), some(random, random.IntN(40))
		kind, at, tries := 1+random.IntN(2), random.IntN(3), 1+random.IntN(4)
		given, draws := copies(list), slices.Clone(l)
		c, next, ok, e := cut.Draw(kind, list, l, at, tries)
		want, after, has, wrong := drawn(kind, list, l, at, tries)
		if !slices.Equal(c.Coef, want.Coef) || c.At != want.At || next != after || ok != has || e != wrong {
			t.Fatal(kind, list, l, at, tries, c, next, ok, e, "instead of", want, after, has, wrong)
		}
		if !equal(list, given) || !slices.Equal(l, draws) {
			t.Fatal("what was handed in was changed")
		}
		switch {
		case e != api.OK:
			seen["error"]++
		case !ok:
			seen["equal"]++
		default:
			left, right, e := cut.Split(c, list)
			if !cut.Is(c, dim) || len(left) == 0 || len(right) == 0 || e != api.OK {
				t.Fatal(list, c, left, right, e)
			}
			seen["split"]++
		}
	}
	for _, what := range []string{"error", "equal", "split"} {
		if seen[what] < 500 {
			t.Error("seldom tested:", what, seen[what])
		}
	}
}

// P9.2, R3
func TestDrawIsNew(t *testing.T) {
	list, l := [][]int{{1, 1}, {2, 1}}, []uint64{0, 0, 0, 0}
	for _, kind := range []int{api.KindAxis, api.KindPlane} {
		a, _, _, _ := cut.Draw(kind, list, l, 0, 1)
		b, _, _, _ := cut.Draw(kind, list, l, 0, 1)
		if !cut.Same(a, b) {
			t.Error("the same arguments, another cut:", a, b)
		}
		a.Coef[0] = 99
		if b.Coef[0] == 99 || list[0][0] == 99 || list[1][0] == 99 {
			t.Error("two answers share memory")
		}
	}
}
