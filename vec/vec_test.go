package vec_test

import (
	"math/big"
	"math/rand/v2"
	"slices"
	"testing"

	"copse/api"
	"copse/vec"
)

const (
	least = -1 << 63
	most  = 1<<63 - 1
)

// same is a list of n times this number.
func same(n, number int) []int {
	return slices.Repeat([]int{number}, n)
}

// vectors are n of dimension dim; few numbers are between their ends, so that they meet.
func vectors(random *rand.Rand, n, dim int) [][]int {
	l := make([][]int, n)
	for i := range l {
		for range dim {
			l[i] = append(l[i], []int{api.LeastValue, api.MostValue, -2, -1, 0, 1, 2, int(int32(random.Uint32()))}[random.IntN(8)])
		}
	}
	return l
}

// plane is coefficients of dimension dim.
func plane(random *rand.Rand, dim int) []int {
	c := make([]int, dim)
	for i := range c {
		c[i] = random.IntN(2*api.MaxCoef+1) - api.MaxCoef
	}
	if slices.Equal(c, make([]int, dim)) {
		c[0] = api.MaxCoef
	}
	return c
}

// wrong are lists that are no vectors of dimension 2.
func wrong() [][]int {
	return [][]int{nil, {}, {1}, {1, 2, 3}, same(9, 1), {api.LeastValue - 1, 0}, {0, api.LeastValue - 1}, {api.MostValue + 1, 0}, {0, api.MostValue + 1}, {least, 0}, {0, most}}
}

// copies is l, which a call may not change.
func copies(l [][]int) [][]int {
	var c [][]int
	for _, v := range l {
		c = append(c, slices.Clone(v))
	}
	return c
}

func equal(a, b [][]int) bool {
	return slices.EqualFunc(a, b, slices.Equal[[]int])
}

// P8.1
func TestIs(t *testing.T) {
	for dim := -1; dim <= 10; dim++ {
		for n := range 11 {
			if got, want := vec.Is(same(n, 5), dim), n == dim && dim >= 1 && dim <= api.MaxDim; got != want {
				t.Errorf("%d numbers in dimension %d: %v", n, dim, got)
			}
		}
	}
	for number, want := range map[int]bool{
		0: true, api.LeastValue: true, api.MostValue: true, api.LeastValue - 1: false, api.MostValue + 1: false,
		least: false, most: false, 1 << 32: false, -1 << 32: false,
	} {
		for n := 1; n <= api.MaxDim; n++ {
			for i := range n {
				v := same(n, -7)
				v[i] = number
				if vec.Is(v, n) != want {
					t.Error(v, !want)
				}
			}
		}
	}
	for _, v := range wrong() {
		if vec.Is(v, 2) {
			t.Error(v)
		}
	}
	if vec.Is(nil, 0) || vec.Is(nil, least) || vec.Is([]int{1}, most) {
		t.Error("a dimension that none has")
	}
}

// P8.1
func TestParts(t *testing.T) {
	for dim := -1; dim <= 10; dim++ {
		for n := range 11 {
			if got, want := vec.Parts(same(n, 1), dim), n == dim && dim >= 1 && dim <= api.MaxDim; got != want {
				t.Errorf("%d coefficients in dimension %d: %v", n, dim, got)
			}
			if vec.Parts(same(n, 0), dim) {
				t.Errorf("%d times 0 in dimension %d", n, dim)
			}
		}
	}
	for number := -6; number <= 6; number++ {
		for n := 1; n <= api.MaxDim; n++ {
			for i := range n {
				c := same(n, 0)
				c[i] = number
				if vec.Parts(c, n) != (number != 0 && number >= -4 && number <= 4) {
					t.Error("besides 0:", c)
				}
				c = same(n, 1)
				c[i] = number
				if vec.Parts(c, n) != (number >= -4 && number <= 4 && (n > 1 || number != 0)) {
					t.Error("besides 1:", c)
				}
			}
		}
	}
	for i, c := range [][]int{{least, 1}, {1, most}, {-4, 5}, {-5, 4}, {4, -5}, {1}, {1, 1, 1}, nil} {
		if vec.Parts(c, 2) {
			t.Error(i)
		}
	}
	if vec.Parts(nil, 0) || vec.Parts(nil, least) || vec.Parts([]int{1}, most) {
		t.Error("a dimension that none has")
	}
}

// P8.1
func TestDot(t *testing.T) {
	for i, c := range []struct {
		c, v []int
		want int
	}{
		{[]int{2, -1}, []int{5, 7}, 3}, {[]int{1}, []int{-9}, -9}, {[]int{0, 3}, []int{100, 2}, 6}, {[]int{-4, 4}, []int{api.MostValue, api.LeastValue}, -4*api.MostValue + 4*api.LeastValue},
		{same(8, -4), same(8, api.LeastValue), 1 << 36}, {same(8, 4), same(8, api.LeastValue), -1 << 36}, {same(8, 4), same(8, api.MostValue), 1<<36 - 32}, {[]int{1, 2, 3, 4, -1, -2, -3, -4}, []int{1, 10, 100, 1000, 2, 20, 200, 2000}, -4321},
	} {
		if got, e := vec.Dot(c.c, c.v); got != c.want || e != api.OK {
			t.Error(i, got, e)
		}
	}
	for i, v := range wrong() {
		if got, e := vec.Dot([]int{1, 1}, v); got != 0 || e != api.ErrVec {
			t.Error("vector", i, got, e)
		}
		if got, e := vec.Dot(v, []int{1, 1}); got != 0 || e != api.ErrVec {
			t.Error("coefficients", i, got, e)
		}
	}
	for _, c := range [][]int{{0, 0}, {5, 1}, {1, -5}} {
		if got, e := vec.Dot(c, []int{1, 1}); got != 0 || e != api.ErrVec {
			t.Error(c, got, e)
		}
	}
	if got, e := vec.Dot(nil, nil); got != 0 || e != api.ErrVec {
		t.Error(got, e)
	}
	if got, e := vec.Dot(same(9, 1), same(9, 1)); got != 0 || e != api.ErrVec {
		t.Error(got, e)
	}
}

// P8.1: the product is the sum of products
func TestDotOfMany(t *testing.T) {
	random := rand.New(rand.NewPCG(8, 1))
	for range 2000 {
		dim := 1 + random.IntN(api.MaxDim)
		c, v := plane(random, dim), vectors(random, 1, dim)[0]
		sum := new(big.Int)
		for i := range dim {
			sum.Add(sum, big.NewInt(int64(c[i])*int64(v[i])))
		}
		if got, e := vec.Dot(c, v); int64(got) != sum.Int64() || e != api.OK {
			t.Fatal(c, v, got, e)
		}
	}
}

// P8.2
func TestBox(t *testing.T) {
	for i, c := range []struct {
		l      [][]int
		dim    int
		lo, hi []int
	}{
		{[][]int{{1, 5}, {3, 2}}, 2, []int{1, 2}, []int{3, 5}}, {[][]int{{4}}, 1, []int{4}, []int{4}}, {[][]int{{3}, {1}, {2}}, 1, []int{1}, []int{3}}, {[][]int{{2}, {2}}, 1, []int{2}, []int{2}},
		{[][]int{same(8, api.LeastValue), same(8, api.MostValue)}, 8, same(8, api.LeastValue), same(8, api.MostValue)}, {[][]int{{0, -1, 5}, {-3, 0, 5}, {3, 0, 5}}, 3, []int{-3, -1, 5}, []int{3, 0, 5}},
	} {
		if lo, hi, e := vec.Box(c.l, c.dim); !slices.Equal(lo, c.lo) || !slices.Equal(hi, c.hi) || e != api.OK {
			t.Error(i, lo, hi, e)
		}
	}
	fails := func(l [][]int, dim int) {
		if lo, hi, e := vec.Box(l, dim); len(lo) != 0 || len(hi) != 0 || e != api.ErrVec {
			t.Error(l, dim, lo, hi, e)
		}
	}
	for _, v := range wrong() {
		fails([][]int{v}, 2)
		fails([][]int{v, {1, 2}}, 2)
		fails([][]int{{1, 2}, {2, 1}, v}, 2)
		fails([][]int{{1, 2}, v, {2, 1}}, 2)
	}
	for _, dim := range []int{-1, 0, 1, 2, 3, 8, 9, least, most} {
		fails(nil, dim)
		fails([][]int{}, dim)
		fails([][]int{same(9, 1)}, dim)
		fails([][]int{{}}, dim)
	}
	fails([][]int{{1, 2}}, 1)
	fails([][]int{{1, 2}}, 3)
	fails([][]int{{1, 2}, {1}}, 2)
}

// P8.2, P8.3, P8.5, R3
func TestBoxAndReachOfMany(t *testing.T) {
	random := rand.New(rand.NewPCG(8, 2))
	for range 1000 {
		dim := 1 + random.IntN(api.MaxDim)
		l, c := vectors(random, 1+random.IntN(9), dim), plane(random, dim)
		given, plane := copies(l), slices.Clone(c)
		lo, hi, e := vec.Box(l, dim)
		if e != api.OK || len(lo) != dim || len(hi) != dim {
			t.Fatal(l, lo, hi, e)
		}
		for i := range dim {
			var column []int
			for _, v := range l {
				column = append(column, v[i])
			}
			if lo[i] != slices.Min(column) || hi[i] != slices.Max(column) {
				t.Fatal(l, lo, hi)
			}
		}
		from, to, e := vec.Reach(c, l)
		var products []int
		for _, v := range l {
			p, _ := vec.Dot(c, v)
			products = append(products, p)
			if !vec.In(lo, hi, v) || p < from || p > to {
				t.Fatal(v, "outside its box, or reach")
			}
		}
		if from != slices.Min(products) || to != slices.Max(products) || e != api.OK {
			t.Fatal(l, c, from, to, e)
		}
		if !equal(l, given) || !slices.Equal(c, plane) {
			t.Fatal("what was handed in was changed")
		}
	}
}

// P8.2, R3
func TestBoxIsNew(t *testing.T) {
	room := []int{1, 5, 77, 78}
	l := [][]int{room[:2], {1, 5}}
	lo, hi, _ := vec.Box(l, 2)
	_, _ = append(lo, 9), append(hi, 8)
	lo[0] = 10
	if !slices.Equal(hi, []int{1, 5}) {
		t.Error("both ends are one list")
	}
	hi[1] = 11
	if !slices.Equal(room, []int{1, 5, 77, 78}) || !slices.Equal(l[1], []int{1, 5}) {
		t.Error("the box lies in a vector's memory")
	}
}

// Ways: a vector is copied into a list without spare capacity
func TestBoxHasNoRoom(t *testing.T) {
	for dim := 1; dim <= api.MaxDim; dim++ {
		if lo, hi, _ := vec.Box([][]int{same(dim, 1)}, dim); cap(lo) != dim || cap(hi) != dim {
			t.Error("room behind the copies:", dim, cap(lo), cap(hi))
		}
	}
}

// P8.2
func TestOpen(t *testing.T) {
	for i, c := range []struct {
		lo, hi, want []int
	}{
		{nil, nil, nil}, {nil, []int{1}, nil}, {[]int{1}, nil, nil}, {[]int{1}, []int{2}, []int{0}}, {[]int{1}, []int{1}, nil}, {[]int{2}, []int{1}, nil},
		{[]int{1, 1, 1, 1}, []int{2, 1, 0, 9}, []int{0, 3}}, {[]int{0, 0, 0}, []int{1, 1}, []int{0, 1}}, {[]int{0, 0}, []int{0, 1, 1}, []int{1}},
		{[]int{least, most, least}, []int{most, least, least}, []int{0}}, {same(12, 3), same(12, 4), []int{0, 1, 2, 3, 4, 5, 6, 7, 8, 9, 10, 11}},
	} {
		if got := vec.Open(c.lo, c.hi); !slices.Equal(got, c.want) {
			t.Error(i, got)
		}
	}
}

// P8.2
func TestIn(t *testing.T) {
	lo, hi := []int{2, 0}, []int{3, 9}
	for i, c := range []struct {
		lo, hi, v []int
		want      bool
	}{
		{lo, hi, []int{2, 0}, true}, {lo, hi, []int{3, 9}, true}, {lo, hi, []int{2, 5}, true}, {lo, hi, []int{2, 9}, true},
		{lo, hi, []int{1, 5}, false}, {lo, hi, []int{4, 5}, false}, {lo, hi, []int{2, -1}, false}, {lo, hi, []int{2, 10}, false},
		{lo, hi, []int{2}, false}, {lo, hi, []int{2, 5, 5}, false}, {lo, hi, nil, false}, {lo[:1], hi, []int{2, 5}, false}, {lo, hi[:1], []int{2, 5}, false}, {lo[:1], hi[:1], []int{2, 5}, false}, {lo[:1], hi, []int{2}, false}, {lo, hi[:1], []int{2}, false},
		{nil, nil, nil, true}, {nil, nil, []int{1}, false}, {[]int{1}, nil, nil, false}, {nil, []int{1}, nil, false},
		{hi, lo, []int{3, 5}, false}, {[]int{least}, []int{most}, []int{least}, true}, {[]int{least}, []int{most}, []int{most}, true}, {[]int{least + 1}, []int{most}, []int{least}, false}, {[]int{least}, []int{most - 1}, []int{most}, false},
		{same(12, 1), same(12, 1), same(12, 1), true},
	} {
		if got := vec.In(c.lo, c.hi, c.v); got != c.want {
			t.Error(i, got)
		}
	}
}

// P8.3
func TestReach(t *testing.T) {
	for i, c := range []struct {
		c      []int
		l      [][]int
		lo, hi int
	}{
		{[]int{1, -1}, [][]int{{3, 1}, {2, 9}, {3, 0}}, -7, 3}, {[]int{2, -1}, [][]int{{5, 7}}, 3, 3}, {[]int{-1}, [][]int{{1}, {2}}, -2, -1}, {[]int{-1}, [][]int{{2}, {1}}, -2, -1}, {[]int{0, 1}, [][]int{{4, 1}, {-4, 1}}, 1, 1},
		{same(8, 4), [][]int{same(8, api.MostValue), same(8, api.LeastValue)}, -1 << 36, 1<<36 - 32}, {same(8, -4), [][]int{same(8, api.MostValue), same(8, api.LeastValue)}, -1<<36 + 32, 1 << 36},
	} {
		if lo, hi, e := vec.Reach(c.c, c.l); lo != c.lo || hi != c.hi || e != api.OK {
			t.Error(i, lo, hi, e)
		}
	}
	fails := func(c []int, l [][]int) {
		if lo, hi, e := vec.Reach(c, l); lo != 0 || hi != 0 || e != api.ErrVec {
			t.Error(c, l, lo, hi, e)
		}
	}
	for _, v := range wrong() {
		fails([]int{1, 1}, [][]int{v})
		fails([]int{1, 1}, [][]int{v, {1, 1}})
		fails([]int{1, 1}, [][]int{{1, 2}, {1, 1}, v})
		fails(v, [][]int{{1, 1}})
	}
	fails([]int{1, 1}, nil)
	fails([]int{1, 1}, [][]int{})
	fails([]int{0, 0}, [][]int{{1, 1}})
	fails([]int{5, 0}, [][]int{{1, 1}})
	fails(nil, nil)
	fails(nil, [][]int{nil})
	fails(same(9, 1), [][]int{same(9, 1)})
}

// P8.4
func TestOrder(t *testing.T) {
	for i, c := range []struct {
		a, b []int
		want int
	}{
		{nil, nil, 0}, {nil, []int{}, 0}, {nil, []int{0}, -1}, {[]int{least}, nil, 1}, {[]int{1}, []int{1, least}, -1}, {[]int{1, least}, []int{1}, 1},
		{[]int{1}, []int{1}, 0}, {[]int{1}, []int{2}, -1}, {[]int{2}, []int{1, 9}, 1}, {[]int{1, 9}, []int{2}, -1}, {[]int{1, 2, 3}, []int{1, 2, 4}, -1}, {[]int{1, 3, 3}, []int{1, 2, 4}, 1}, {[]int{0, 9, 9}, []int{1, 0, 0}, -1},
		{[]int{least}, []int{most}, -1}, {[]int{most}, []int{least}, 1}, {[]int{least}, []int{least}, 0}, {[]int{-1}, []int{1}, -1}, {same(12, 1), same(12, 1), 0}, {same(12, 1), same(11, 1), 1},
	} {
		if got := vec.Order(c.a, c.b); got != c.want {
			t.Error(i, got)
		}
		if got := vec.Order(c.b, c.a); got != -c.want {
			t.Error(i, "the other way round", got)
		}
	}
	random := rand.New(rand.NewPCG(8, 4))
	for range 2000 {
		a, b := vectors(random, 1, 1+random.IntN(3))[0], vectors(random, 1, 1+random.IntN(3))[0]
		if got := vec.Order(a, b); got != slices.Compare(a, b) {
			t.Fatal(a, b, got)
		}
	}
}

// P8.4
func TestGap(t *testing.T) {
	for i, c := range []struct {
		a, b []int
		want int
	}{
		{[]int{1, 5}, []int{3, 2}, 5}, {[]int{1}, []int{1}, 0}, {[]int{-3}, []int{4}, 7}, {[]int{0, 7, -1}, []int{0, 4, 1}, 5}, {[]int{api.LeastValue}, []int{api.MostValue}, 1<<32 - 1}, {same(8, api.LeastValue), same(8, api.MostValue), 1<<35 - 8}, {same(8, api.LeastValue), same(8, api.LeastValue), 0},
	} {
		for _, pair := range [][2][]int{{c.a, c.b}, {c.b, c.a}} {
			if got, e := vec.Gap(pair[0], pair[1]); got != c.want || e != api.OK {
				t.Error(i, got, e)
			}
		}
	}
	fails := func(a, b []int) {
		if got, e := vec.Gap(a, b); got != 0 || e != api.ErrVec {
			t.Error(a, b, got, e)
		}
	}
	for _, v := range wrong() {
		fails(v, []int{1, 1})
		fails([]int{1, 1}, v)
	}
	for _, v := range [][]int{nil, same(9, 1), {api.MostValue + 1, 0}, {least}, {most}} {
		fails(v, v)
	}
}

// P8.4, P8.5
func TestGapIsADistance(t *testing.T) {
	random := rand.New(rand.NewPCG(8, 5))
	gap := func(a, b []int) int {
		n, e := vec.Gap(a, b)
		if e != api.OK {
			t.Fatal(a, b, e)
		}
		return n
	}
	for range 2000 {
		dim := 1 + random.IntN(api.MaxDim)
		l := vectors(random, 3, dim)
		a, b, c := l[0], l[1], l[2]
		sum := 0
		for i := range dim {
			sum += max(a[i]-b[i], b[i]-a[i])
		}
		switch {
		case gap(a, b) != sum:
			t.Fatal(a, b, gap(a, b))
		case gap(a, b) != gap(b, a), (gap(a, b) == 0) != slices.Equal(a, b), gap(a, slices.Clone(a)) != 0, gap(a, b)+gap(b, c) < gap(a, c):
			t.Fatal("no distance:", l)
		}
	}
}

// P8.4
func TestNear(t *testing.T) {
	for i, c := range []struct {
		l         [][]int
		x         []int
		at, least int
	}{
		{[][]int{{3, 1}, {2, 9}, {3, 0}}, []int{3, 4}, 0, 3}, {[][]int{{9}}, []int{9}, 0, 0}, {[][]int{{9}}, []int{2}, 0, 7}, {[][]int{{9}, {4}, {1}}, []int{3}, 1, 1}, {[][]int{{9}, {5}, {1}}, []int{2}, 2, 1},
		{[][]int{{4}, {2}, {3}, {3}}, []int{3}, 2, 0}, {[][]int{{4}, {2}, {4}}, []int{3}, 0, 1}, {[][]int{{8}, {2}, {4}}, []int{3}, 1, 1}, {[][]int{{0, 3}, {3, 0}, {1, 2}, {1, 1}}, []int{0, 0}, 3, 2},
		{[][]int{same(8, api.LeastValue)}, same(8, api.MostValue), 0, 1<<35 - 8},
	} {
		if at, n, e := vec.Near(c.l, c.x); at != c.at || n != c.least || e != api.OK {
			t.Error(i, at, n, e)
		}
	}
	fails := func(l [][]int, x []int) {
		if at, n, e := vec.Near(l, x); at != 0 || n != 0 || e != api.ErrVec {
			t.Error(l, x, at, n, e)
		}
	}
	for _, v := range wrong() {
		fails([][]int{v}, []int{1, 1})
		fails([][]int{{3, 3}, {1, 2}, v}, []int{1, 1})
		fails([][]int{{3, 3}, v, {1, 2}}, []int{1, 1})
		fails([][]int{{1, 1}, v}, []int{1, 1})
		fails([][]int{{1, 1}}, v)
	}
	fails(nil, []int{1})
	fails([][]int{}, nil)
	fails(nil, nil)
	fails([][]int{nil}, nil)
	fails([][]int{same(9, 1)}, same(9, 1))
	fails([][]int{{most}}, []int{most})
}

// P8.4, R3
func TestNearOfMany(t *testing.T) {
	random := rand.New(rand.NewPCG(8, 6))
	for range 1000 {
		dim := 1 + random.IntN(3)
		l, x := vectors(random, 1+random.IntN(9), dim), vectors(random, 1, dim)[0]
		given, from := copies(l), slices.Clone(x)
		at, n, e := vec.Near(l, x)
		var gaps []int
		for _, v := range l {
			far, _ := vec.Gap(v, x)
			gaps = append(gaps, far)
		}
		if n != slices.Min(gaps) || at != slices.Index(gaps, n) || e != api.OK {
			t.Fatal(l, x, at, n, e)
		}
		if !equal(l, given) || !slices.Equal(x, from) {
			t.Fatal("what was handed in was changed")
		}
	}
}
