package ratio_test

import (
	"math/big"
	"math/rand/v2"
	"testing"

	"copse/api"
	"copse/ratio"
)

const (
	least = -1 << 63
	most  = 1<<63 - 1
	part  = api.MaxPart
)

// numbers are the edges of numbers and of parts, and some others.
func numbers() []int {
	l := []int{least, least + 1, least / 2, -1 << 40, -part - 1, -part, -part + 1, -12, -6, -4, -3, -2, -1, 0, 1, 2, 3, 4, 6, 9, 12, part - 1, part, part + 1, 2 * part, 1 << 40, most / 2, most - 1, most}
	random := rand.New(rand.NewPCG(3, 1))
	for range 20 {
		l = append(l, int(random.Uint64())>>random.UintN(64))
	}
	return l
}

// valid are ratios at the edges, and some others.
func valid() []api.Ratio {
	l := []api.Ratio{
		{P: 0, Q: 1}, {P: 1, Q: 1}, {P: -1, Q: 1}, {P: 5, Q: 1}, {P: 1, Q: 2}, {P: -1, Q: 2}, {P: 1, Q: 3}, {P: 1, Q: 6}, {P: 2, Q: 3}, {P: -3, Q: 2}, {P: 7, Q: 12},
		{P: part, Q: 1}, {P: -part, Q: 1}, {P: part - 1, Q: 1}, {P: 1 - part, Q: 1}, {P: 1, Q: part}, {P: -1, Q: part}, {P: 1, Q: part - 1}, {P: -1, Q: part - 1},
		{P: part, Q: part - 1}, {P: -part, Q: part - 1}, {P: part - 1, Q: part}, {P: 1 - part, Q: part}, {P: part - 3, Q: part - 2}, {P: part, Q: 3}, {P: 3, Q: part}, {P: part / 2, Q: 1}, {P: -part / 2, Q: 1}, {P: 1, Q: part / 2},
	}
	random := rand.New(rand.NewPCG(3, 2))
	for range 30 {
		r, e := ratio.Of(int(random.Int32N(part))>>random.UintN(30)-part>>random.UintN(30), 1+int(random.Int32N(part))>>random.UintN(30))
		if e == api.OK {
			l = append(l, r)
		}
	}
	return l
}

// wrong are no valid ratios.
func wrong() []api.Ratio {
	return []api.Ratio{
		{}, {P: 1}, {P: 0, Q: 2}, {P: 2, Q: 4}, {P: 2, Q: 2}, {P: -6, Q: 9}, {P: 1, Q: -2}, {P: -1, Q: -1}, {P: 0, Q: -1}, {P: 3, Q: 3},
		{P: part + 1, Q: 1}, {P: -part - 1, Q: 1}, {P: 1, Q: part + 1}, {P: part, Q: part}, {P: 1, Q: most}, {P: most, Q: 1}, {P: least, Q: 1}, {P: 1, Q: least}, {P: least, Q: least}, {P: 0, Q: least}, {P: least, Q: 0}, {P: least, Q: -1},
	}
}

func exact(r api.Ratio) *big.Rat {
	return big.NewRat(int64(r.P), int64(r.Q))
}

// fitting is what a call has to answer whose exact result is r.
func fitting(r *big.Rat) (api.Ratio, api.Errno) {
	limit := big.NewInt(part)
	if r.Num().CmpAbs(limit) > 0 || r.Denom().Cmp(limit) > 0 {
		return api.Ratio{}, api.ErrOver
	}
	return api.Ratio{P: int(r.Num().Int64()), Q: int(r.Denom().Int64())}, api.OK
}

// P3.1
func TestOf(t *testing.T) {
	for _, p := range numbers() {
		for _, q := range numbers() {
			r, e := ratio.Of(p, q)
			if q == 0 {
				if r != (api.Ratio{}) || e != api.ErrZero {
					t.Error(p, q, r, e)
				}
				continue
			}
			want, wantE := fitting(big.NewRat(int64(p), int64(q)))
			if r != want || e != wantE {
				t.Error(p, q, r, e, want, wantE)
			}
		}
	}
}

// P3.1: the edges, written out.
func TestOfAtTheEdges(t *testing.T) {
	for i, c := range []struct {
		p, q int
		want api.Ratio
		e    api.Errno
	}{
		{6, -4, api.Ratio{P: -3, Q: 2}, api.OK}, {-6, -4, api.Ratio{P: 3, Q: 2}, api.OK}, {0, -7, api.Ratio{Q: 1}, api.OK}, {0, least, api.Ratio{Q: 1}, api.OK},
		{least, least, api.Ratio{P: 1, Q: 1}, api.OK}, {least, -1, api.Ratio{}, api.ErrOver}, {least, 1 << 33, api.Ratio{P: -part, Q: 1}, api.OK}, {least, -1 << 33, api.Ratio{P: part, Q: 1}, api.OK},
		{1 << 33, least, api.Ratio{P: -1, Q: part}, api.OK}, {1 << 32, least, api.Ratio{}, api.ErrOver}, {-1, least, api.Ratio{}, api.ErrOver},
		{part, 1, api.Ratio{P: part, Q: 1}, api.OK}, {part + 1, 1, api.Ratio{}, api.ErrOver}, {-part - 1, 1, api.Ratio{}, api.ErrOver}, {1, part, api.Ratio{P: 1, Q: part}, api.OK}, {1, part + 1, api.Ratio{}, api.ErrOver}, {1, -part - 1, api.Ratio{}, api.ErrOver},
		{0, 0, api.Ratio{}, api.ErrZero}, {most, 0, api.Ratio{}, api.ErrZero}, {least, 0, api.Ratio{}, api.ErrZero},
	} {
		if r, e := ratio.Of(c.p, c.q); r != c.want || e != c.e {
			t.Error(i, r, e)
		}
	}
}

// P3.1
func TestIs(t *testing.T) {
	for _, r := range valid() {
		if !ratio.Is(r) {
			t.Error(r)
		}
	}
	for _, r := range wrong() {
		if ratio.Is(r) {
			t.Error(r)
		}
	}
	for p := -13; p <= 13; p++ {
		for q := -2; q <= 13; q++ {
			want := q > 0 && exact(api.Ratio{P: p, Q: q}).Denom().Int64() == int64(q)
			if ratio.Is(api.Ratio{P: p, Q: q}) != want {
				t.Error(p, q, want)
			}
		}
	}
}

// P3.2
func TestCmp(t *testing.T) {
	for _, a := range valid() {
		for _, b := range valid() {
			if n, e := ratio.Cmp(a, b); n != exact(a).Cmp(exact(b)) || e != api.OK {
				t.Error(a, b, n, e)
			}
		}
	}
}

var operations = map[string]struct {
	got  func(a, b api.Ratio) (api.Ratio, api.Errno)
	want func(z, a, b *big.Rat) *big.Rat
}{
	"Add": {ratio.Add, (*big.Rat).Add},
	"Sub": {ratio.Sub, (*big.Rat).Sub},
	"Mul": {ratio.Mul, (*big.Rat).Mul},
	"Div": {ratio.Div, (*big.Rat).Quo},
}

// P3.2
func TestAddSubMulDiv(t *testing.T) {
	for name, c := range operations {
		for _, a := range valid() {
			for _, b := range valid() {
				r, e := c.got(a, b)
				if name == "Div" && b.P == 0 {
					if r != (api.Ratio{}) || e != api.ErrZero {
						t.Error(a, b, r, e)
					}
					continue
				}
				want, wantE := fitting(c.want(new(big.Rat), exact(a), exact(b)))
				if r != want || e != wantE {
					t.Error(name, a, b, r, e, want, wantE)
				}
			}
		}
	}
}

// P3.2: examples and edges, written out.
func TestAddSubMulDivAtTheEdges(t *testing.T) {
	top, one, half := api.Ratio{P: part, Q: 1}, api.Ratio{P: 1, Q: 1}, api.Ratio{P: 1, Q: 2}
	for i, c := range []struct {
		f    func(a, b api.Ratio) (api.Ratio, api.Errno)
		a, b api.Ratio
		want api.Ratio
		e    api.Errno
	}{
		{ratio.Add, api.Ratio{P: 1, Q: 6}, api.Ratio{P: 1, Q: 3}, half, api.OK}, {ratio.Add, top, one, api.Ratio{}, api.ErrOver}, {ratio.Add, top, half, api.Ratio{}, api.ErrOver}, {ratio.Add, top, api.Ratio{P: -part, Q: 1}, api.Ratio{Q: 1}, api.OK},
		{ratio.Sub, half, half, api.Ratio{Q: 1}, api.OK}, {ratio.Sub, api.Ratio{P: -part, Q: 1}, one, api.Ratio{}, api.ErrOver}, {ratio.Sub, top, one, api.Ratio{P: part - 1, Q: 1}, api.OK},
		{ratio.Mul, top, api.Ratio{P: 1, Q: part}, one, api.OK}, {ratio.Mul, top, top, api.Ratio{}, api.ErrOver}, {ratio.Mul, api.Ratio{P: 1, Q: part}, half, api.Ratio{}, api.ErrOver}, {ratio.Mul, top, api.Ratio{P: -1, Q: 1}, api.Ratio{P: -part, Q: 1}, api.OK},
		{ratio.Div, one, api.Ratio{P: -2, Q: 3}, api.Ratio{P: -3, Q: 2}, api.OK}, {ratio.Div, one, api.Ratio{P: -part, Q: 1}, api.Ratio{P: -1, Q: part}, api.OK}, {ratio.Div, top, half, api.Ratio{}, api.ErrOver}, {ratio.Div, half, top, api.Ratio{}, api.ErrOver},
		{ratio.Div, api.Ratio{Q: 1}, top, api.Ratio{Q: 1}, api.OK}, {ratio.Div, api.Ratio{Q: 1}, api.Ratio{Q: 1}, api.Ratio{}, api.ErrZero}, {ratio.Div, top, api.Ratio{Q: 1}, api.Ratio{}, api.ErrZero},
	} {
		if r, e := c.f(c.a, c.b); r != c.want || e != c.e {
			t.Error(i, r, e)
		}
	}
}

// P3.2: what is no valid ratio, on either side, goes before any other error.
func TestWrongRatios(t *testing.T) {
	zero, one := api.Ratio{Q: 1}, api.Ratio{P: 1, Q: 1}
	for _, w := range wrong() {
		for _, pair := range [][2]api.Ratio{{w, one}, {one, w}, {w, zero}, {zero, w}, {w, w}} {
			for name, c := range operations {
				if r, e := c.got(pair[0], pair[1]); r != (api.Ratio{}) || e != api.ErrRatio {
					t.Error(name, pair, r, e)
				}
			}
			if n, e := ratio.Cmp(pair[0], pair[1]); n != 0 || e != api.ErrRatio {
				t.Error("Cmp", pair, n, e)
			}
		}
		for name, f := range map[string]func(api.Ratio) (int, api.Errno){
			"Floor": ratio.Floor,
			"Ceil":  ratio.Ceil,
			"Part":  func(r api.Ratio) (int, api.Errno) { return ratio.Part(least, r) },
		} {
			if n, e := f(w); n != 0 || e != api.ErrRatio {
				t.Error(name, w, n, e)
			}
		}
	}
}

// below is the greatest number that is not above r.
func below(r *big.Rat) *big.Int {
	return new(big.Int).Div(r.Num(), r.Denom())
}

// P3.2
func TestFloorAndCeil(t *testing.T) {
	for _, r := range valid() {
		if n, e := ratio.Floor(r); int64(n) != below(exact(r)).Int64() || e != api.OK {
			t.Error(r, n, e)
		}
		if n, e := ratio.Ceil(r); int64(n) != -below(new(big.Rat).Neg(exact(r))).Int64() || e != api.OK {
			t.Error(r, n, e)
		}
	}
	for r, want := range map[api.Ratio][2]int{{P: -3, Q: 2}: {-2, -1}, {P: 3, Q: 2}: {1, 2}, {P: -1, Q: part}: {-1, 0}, {P: 1, Q: part}: {0, 1}, {Q: 1}: {0, 0}, {P: -4, Q: 1}: {-4, -4}, {P: -part, Q: part - 1}: {-2, -1}} {
		floor, _ := ratio.Floor(r)
		ceil, _ := ratio.Ceil(r)
		if floor != want[0] || ceil != want[1] {
			t.Error(r, floor, ceil)
		}
	}
}

// P3.2
func TestPart(t *testing.T) {
	for _, n := range numbers() {
		for _, r := range valid() {
			got, e := ratio.Part(n, r)
			want := below(new(big.Rat).Mul(exact(r), new(big.Rat).SetInt64(int64(n))))
			if !want.IsInt64() {
				if got != 0 || e != api.ErrOver {
					t.Error(n, r, got, e)
				}
				continue
			}
			if int64(got) != want.Int64() || e != api.OK {
				t.Error(n, r, got, e, want)
			}
		}
	}
}

// P3.2: the edges, written out; among them products that fit although their whole parts alone do not.
func TestPartAtTheEdges(t *testing.T) {
	for i, c := range []struct {
		n    int
		r    api.Ratio
		want int
		e    api.Errno
	}{
		{7, api.Ratio{P: 2, Q: 3}, 4, api.OK}, {-7, api.Ratio{P: 2, Q: 3}, -5, api.OK}, {7, api.Ratio{P: -2, Q: 3}, -5, api.OK}, {-7, api.Ratio{P: -2, Q: 3}, 4, api.OK},
		{least, api.Ratio{P: 1, Q: 1}, least, api.OK}, {least, api.Ratio{P: -1, Q: 1}, 0, api.ErrOver}, {most, api.Ratio{P: -1, Q: 1}, -most, api.OK}, {most, api.Ratio{P: 2, Q: 1}, 0, api.ErrOver},
		{least, api.Ratio{P: part, Q: part - 1}, 0, api.ErrOver}, {least, api.Ratio{P: part - 1, Q: part}, least + 1<<33, api.OK}, {most, api.Ratio{P: 1, Q: part}, 1<<33 - 1, api.OK}, {least, api.Ratio{P: 0, Q: 1}, 0, api.OK},
		{least / 4 * 3, api.Ratio{P: 4, Q: 3}, least, api.OK}, {least/4*3 - 1, api.Ratio{P: 4, Q: 3}, 0, api.ErrOver}, {least/2 + 1, api.Ratio{P: 2, Q: 1}, least + 2, api.OK},
		{-(most/3*2 + 1), api.Ratio{P: 3, Q: 2}, least, api.OK}, {-(most/3*2 + 2), api.Ratio{P: 3, Q: 2}, 0, api.ErrOver}, {most / 3 * 2, api.Ratio{P: 3, Q: 2}, most / 3 * 3, api.OK},
	} {
		if n, e := ratio.Part(c.n, c.r); n != c.want || e != c.e {
			t.Error(i, n, e)
		}
	}
}

// P3.3
func TestOrder(t *testing.T) {
	for _, p := range numbers() {
		for _, q := range numbers() {
			for _, r := range []int{least, -part, -3, -1, 0, 1, 2, 3, part + 1, most - 1, most} {
				for _, s := range []int{least, -1, 0, 1, 2, 3, part + 1, most - 1, most} {
					n, e := ratio.Order(p, q, r, s)
					if q < 1 || s < 1 {
						if n != 0 || e != api.ErrArg {
							t.Error(p, q, r, s, n, e)
						}
						continue
					}
					if want := big.NewRat(int64(p), int64(q)).Cmp(big.NewRat(int64(r), int64(s))); n != want || e != api.OK {
						t.Error(p, q, r, s, n, e, want)
					}
				}
			}
		}
	}
}

// P3.5
func TestRestore(t *testing.T) {
	for _, a := range valid() {
		for _, b := range valid() {
			if sum, e := ratio.Add(a, b); e == api.OK {
				if back, e := ratio.Sub(sum, b); back != a || e != api.OK {
					t.Error(a, b, sum, back, e)
				}
			}
			if product, e := ratio.Mul(a, b); e == api.OK && b.P != 0 {
				if back, e := ratio.Div(product, b); back != a || e != api.OK {
					t.Error(a, b, product, back, e)
				}
			}
		}
	}
}
