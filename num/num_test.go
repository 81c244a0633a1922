package num_test

import (
	"math/big"
	"math/rand/v2"
	"slices"
	"testing"

	"copse/api"
	"copse/num"
)

const (
	least = -1 << 63
	most  = 1<<63 - 1
)

// numbers are the edges at which results begin not to fit, and some others.
func numbers() []int {
	l := []int{least, least + 1, least + 2, least / 2, least/2 - 1, -3037000500, -3037000499, -1 << 32, -1 << 31, -12, -7, -6, -4, -3, -2, -1, 0, 1, 2, 3, 4, 6, 7, 12, 1<<31 - 1, 1 << 31, 1<<32 - 1, 1 << 32, 1<<32 + 1, 3037000499, 3037000500, most / 2, most/2 + 1, most - 1, most}
	random := rand.New(rand.NewPCG(1, 2))
	for range 25 {
		l = append(l, int(random.Uint64())>>random.UintN(64))
	}
	return l
}

func whole(n int) *big.Int {
	return big.NewInt(int64(n))
}

// fitting is what a call has to answer whose exact result is n.
func fitting(n *big.Int) (int, api.Errno) {
	if !n.IsInt64() {
		return 0, api.ErrOver
	}
	return int(n.Int64()), api.OK
}

// P1.1
func TestAddSubMul(t *testing.T) {
	for name, c := range map[string]struct {
		got  func(a, b int) (int, api.Errno)
		want func(z, a, b *big.Int) *big.Int
	}{
		"Add": {num.Add, (*big.Int).Add},
		"Sub": {num.Sub, (*big.Int).Sub},
		"Mul": {num.Mul, (*big.Int).Mul},
	} {
		for _, a := range numbers() {
			for _, b := range numbers() {
				n, e := c.got(a, b)
				want, wantE := fitting(c.want(new(big.Int), whole(a), whole(b)))
				if n != want || e != wantE {
					t.Error(name, a, b, n, e, want, wantE)
				}
			}
		}
	}
}

// P1.1: the edges, written out.
func TestAddSubMulAtTheEdges(t *testing.T) {
	for i, c := range []struct {
		f    func(a, b int) (int, api.Errno)
		a, b int
		want int
		e    api.Errno
	}{
		{num.Add, most, 1, 0, api.ErrOver}, {num.Add, least, -1, 0, api.ErrOver}, {num.Add, least, least, 0, api.ErrOver}, {num.Add, most, least, -1, api.OK},
		{num.Sub, 0, least, 0, api.ErrOver}, {num.Sub, least, 1, 0, api.ErrOver}, {num.Sub, least, least, 0, api.OK}, {num.Sub, -1, least, most, api.OK},
		{num.Mul, least, -1, 0, api.ErrOver}, {num.Mul, -1, least, 0, api.ErrOver}, {num.Mul, least, 0, 0, api.OK}, {num.Mul, 1 << 32, -1 << 31, least, api.OK}, {num.Mul, 1 << 32, 1 << 32, 0, api.ErrOver},
	} {
		if n, e := c.f(c.a, c.b); n != c.want || e != c.e {
			t.Error(i, n, e)
		}
	}
}

// P1.2
func TestDiv(t *testing.T) {
	for _, a := range numbers() {
		for _, b := range numbers() {
			q, r, e := num.Div(a, b)
			if b == 0 {
				if q != 0 || r != 0 || e != api.ErrZero {
					t.Error(a, b, q, r, e)
				}
				continue
			}
			wantQ, wantR := new(big.Int).DivMod(whole(a), whole(b), new(big.Int))
			want, wantE := fitting(wantQ)
			if q != want || int64(r) != wantR.Int64() || e != wantE {
				t.Error(a, b, q, r, e, wantQ, wantR)
			}
		}
	}
	for _, c := range [][4]int{{-7, 2, -4, 1}, {-7, -2, 4, 1}, {7, -2, -3, 1}, {7, 2, 3, 1}, {-1, least, 1, most}, {least, least, 1, 0}, {least, 1, least, 0}} {
		if q, r, e := num.Div(c[0], c[1]); q != c[2] || r != c[3] || e != api.OK {
			t.Error(c, q, r, e)
		}
	}
	if q, r, e := num.Div(least, -1); q != 0 || r != 0 || e != api.ErrOver {
		t.Error(q, r, e)
	}
}

// P1.2
func TestCeil(t *testing.T) {
	for _, a := range numbers() {
		for _, b := range numbers() {
			q, e := num.Ceil(a, b)
			if b < 1 {
				if q != 0 || e != api.ErrArg {
					t.Error(a, b, q, e)
				}
				continue
			}
			times := new(big.Int).Mul(whole(b), whole(q))
			below := new(big.Int).Sub(times, whole(b))
			if e != api.OK || times.Cmp(whole(a)) < 0 || below.Cmp(whole(a)) >= 0 {
				t.Error(a, b, q, e)
			}
		}
	}
	if q, e := num.Ceil(-7, 2); q != -3 || e != api.OK {
		t.Error(q, e)
	}
}

// P1.2
func TestGcd(t *testing.T) {
	for _, a := range numbers() {
		for _, b := range numbers() {
			n, e := num.Gcd(a, b)
			size := new(big.Int).GCD(nil, nil, new(big.Int).Abs(whole(a)), new(big.Int).Abs(whole(b)))
			if want, wantE := fitting(size); n != want || e != wantE {
				t.Error(a, b, n, e, want, wantE)
			}
		}
	}
	for _, c := range [][3]int{{0, 0, 0}, {0, -5, 5}, {-5, 0, 5}, {least, -6, 2}, {-6, least, 2}, {12, -18, 6}, {least, most, 1}} {
		if n, e := num.Gcd(c[0], c[1]); n != c[2] || e != api.OK {
			t.Error(c, n, e)
		}
	}
	for _, c := range [][2]int{{least, 0}, {0, least}, {least, least}} {
		if n, e := num.Gcd(c[0], c[1]); n != 0 || e != api.ErrOver {
			t.Error(c, n, e)
		}
	}
}

// lists are lists of numbers, by twos of one length.
func lists() [][2][]int {
	random := rand.New(rand.NewPCG(3, 4))
	all := numbers()
	var out [][2][]int
	for i := range 3000 {
		var pair [2][]int
		for range i % 9 {
			pair[0] = append(pair[0], all[random.IntN(len(all))])
			pair[1] = append(pair[1], all[random.IntN(len(all))])
		}
		if i%2 == 1 { // sums that come back
			for j := range pair[0] {
				pair[0] = append(pair[0], pair[0][j])
				pair[1] = append(pair[1], -pair[1][j])
			}
			pair[0], pair[1] = append(pair[0], i), append(pair[1], 1)
		}
		out = append(out, pair)
	}
	return out
}

// P1.3
func TestSum(t *testing.T) {
	for _, pair := range lists() {
		for _, l := range pair {
			exact := new(big.Int)
			for _, n := range l {
				exact.Add(exact, whole(n))
			}
			given := slices.Clone(l)
			n, e := num.Sum(l...)
			if want, wantE := fitting(exact); n != want || e != wantE {
				t.Error(l, n, e, want, wantE)
			}
			if !slices.Equal(l, given) {
				t.Error("Sum changed", given, l)
			}
		}
	}
	for i, c := range []struct {
		l    []int
		want int
		e    api.Errno
	}{
		{nil, 0, api.OK}, {[]int{}, 0, api.OK}, {[]int{least}, least, api.OK},
		{[]int{most, 1, -5}, most - 4, api.OK}, {[]int{most, most, most, least, least, least}, -3, api.OK},
		{[]int{most, 1}, 0, api.ErrOver}, {[]int{least, -1}, 0, api.ErrOver}, {[]int{least, least}, 0, api.ErrOver},
		{[]int{most, most, 2}, 0, api.ErrOver}, {[]int{most, most, most, 1}, 0, api.ErrOver},
	} {
		if n, e := num.Sum(c.l...); n != c.want || e != c.e {
			t.Error(i, n, e)
		}
	}
}

// P1.3
func TestDot(t *testing.T) {
	for _, pair := range lists() {
		a, b := pair[0], pair[1]
		exact := new(big.Int)
		for i := range a {
			exact.Add(exact, new(big.Int).Mul(whole(a[i]), whole(b[i])))
		}
		givenA, givenB := slices.Clone(a), slices.Clone(b)
		n, e := num.Dot(a, b)
		if want, wantE := fitting(exact); n != want || e != wantE {
			t.Error(a, b, n, e, want, wantE)
		}
		if !slices.Equal(a, givenA) || !slices.Equal(b, givenB) {
			t.Error("Dot changed", givenA, givenB, a, b)
		}
	}
}

// P1.3: sums beyond two words, lists of nothing, and of different lengths.
func TestDotAtTheEdges(t *testing.T) {
	for i, c := range []struct {
		a, b []int
		want int
		e    api.Errno
	}{
		{nil, nil, 0, api.OK}, {nil, []int{}, 0, api.OK}, {[]int{2, -1}, []int{5, 7}, 3, api.OK},
		{[]int{1}, nil, 0, api.ErrArg}, {nil, []int{1}, 0, api.ErrArg}, {[]int{1, 2}, []int{1, 2, 3}, 0, api.ErrArg}, {[]int{most, most}, []int{most}, 0, api.ErrArg},
		{[]int{most, most}, []int{most, -most}, 0, api.OK}, {[]int{least, most, 1}, []int{least, -most, 0}, 0, api.ErrOver},
		{[]int{least, least}, []int{least, least}, 0, api.ErrOver},
		{[]int{least, least, least, least}, []int{least, least, least, least}, 0, api.ErrOver},
		{[]int{least, least, least, least, least, least, least, least, least}, []int{least, least, least, least, most, most, most, most, 4}, 0, api.OK},
		{[]int{least, 1}, []int{1, -1}, 0, api.ErrOver}, {[]int{least, 1}, []int{-1, -1}, most, api.OK},
	} {
		if n, e := num.Dot(c.a, c.b); n != c.want || e != c.e {
			t.Error(i, n, e)
		}
	}
}

// P1.4
func TestLog(t *testing.T) {
	for _, n := range []int{least, -64, -1, 0, 1} {
		if k := num.Log(n); k != 0 {
			t.Error(n, k)
		}
	}
	for k := 1; k < 63; k++ {
		power := 1 << k
		if num.Log(power) != k || num.Log(power+1) != k+1 {
			t.Error(k, num.Log(power), num.Log(power+1))
		}
		if below := num.Log(power - 1); k > 1 && below != k || k == 1 && below != 0 {
			t.Error(k, below)
		}
	}
	for n, want := range map[int]int{5: 3, 64: 6, 65: 7, most: 63} {
		if k := num.Log(n); k != want {
			t.Error(n, k)
		}
	}
}

// P1.4
func TestClamp(t *testing.T) {
	for _, c := range [][4]int{
		{5, 1, 9, 5}, {0, 1, 9, 1}, {10, 1, 9, 9}, {1, 1, 9, 1}, {9, 1, 9, 9},
		{5, 9, 1, 9}, {9, 9, 1, 1}, {10, 9, 1, 1}, {0, 9, 1, 9},
		{least, least, most, least}, {most, least, most, most}, {least, -3, 3, -3}, {most, -3, 3, 3}, {0, 0, 0, 0},
	} {
		if n := num.Clamp(c[0], c[1], c[2]); n != c[3] {
			t.Error(c, n)
		}
	}
}

// P1.5
func TestOrderOfSumsDoesNotMatter(t *testing.T) {
	random := rand.New(rand.NewPCG(5, 6))
	for _, pair := range lists() {
		a, b := slices.Clone(pair[0]), slices.Clone(pair[1])
		sum, sumE := num.Sum(a...)
		dot, dotE := num.Dot(a, b)
		random.Shuffle(len(a), func(i, j int) {
			a[i], a[j] = a[j], a[i]
			b[i], b[j] = b[j], b[i]
		})
		if n, e := num.Sum(a...); n != sum || e != sumE {
			t.Error("Sum", a, n, e, sum, sumE)
		}
		if n, e := num.Dot(a, b); n != dot || e != dotE {
			t.Error("Dot", a, b, n, e, dot, dotE)
		}
		if n, e := num.Dot(b, a); n != dot || e != dotE {
			t.Error("Dot", b, a, n, e, dot, dotE)
		}
	}
}
