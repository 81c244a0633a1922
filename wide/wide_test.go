package wide_test

import (
	"math/big"
	"math/rand/v2"
	"testing"

	"copse/api"
	"copse/wide"
)

const (
	least = -1 << 63
	most  = 1<<63 - 1
)

// words are the edges of a word and of its halves, and some others.
func words() []uint64 {
	l := []uint64{0, 1, 2, 3, 9, 10, 1<<32 - 1, 1 << 32, 1<<32 + 1, 1<<63 - 1, 1 << 63, 1<<63 + 1, 1<<64 - 2, 1<<64 - 1}
	random := rand.New(rand.NewPCG(1, 2))
	for range 10 {
		l = append(l, random.Uint64()>>random.UintN(64))
	}
	return l
}

// wides are all pairs of words.
func wides() []api.Wide {
	var l []api.Wide
	for _, high := range words() {
		for _, low := range words() {
			l = append(l, api.Wide{Hi: high, Lo: low})
		}
	}
	return l
}

func whole(n uint64) *big.Int {
	return new(big.Int).SetUint64(n)
}

func exact(a api.Wide) *big.Int {
	n := new(big.Int).Lsh(whole(a.Hi), 64)
	return n.Add(n, whole(a.Lo))
}

// fitting is what a call has to answer whose exact result is n.
func fitting(n *big.Int) (api.Wide, api.Errno) {
	if n.Sign() < 0 || n.BitLen() > 128 {
		return api.Wide{}, api.ErrOver
	}
	low := new(big.Int).And(n, whole(1<<64-1))
	return api.Wide{Hi: new(big.Int).Rsh(n, 64).Uint64(), Lo: low.Uint64()}, api.OK
}

// P2.1
func TestOfAndMul(t *testing.T) {
	for _, a := range words() {
		if w := wide.Of(a); w != (api.Wide{Lo: a}) {
			t.Error(a, w)
		}
		for _, b := range words() {
			if w := wide.Mul(a, b); exact(w).Cmp(new(big.Int).Mul(whole(a), whole(b))) != 0 {
				t.Error(a, b, w)
			}
		}
	}
	if w := wide.Mul(1<<63, 6); w != (api.Wide{Hi: 3}) {
		t.Error(w)
	}
	if w := wide.Mul(1<<64-1, 1<<64-1); w != (api.Wide{Hi: 1<<64 - 2, Lo: 1}) {
		t.Error(w)
	}
}

// P2.1
func TestAddSubCmp(t *testing.T) {
	for _, a := range wides() {
		for _, b := range wides() {
			w, e := wide.Add(a, b)
			if want, wantE := fitting(new(big.Int).Add(exact(a), exact(b))); w != want || e != wantE {
				t.Error("Add", a, b, w, e, want, wantE)
			}
			w, e = wide.Sub(a, b)
			if want, wantE := fitting(new(big.Int).Sub(exact(a), exact(b))); w != want || e != wantE {
				t.Error("Sub", a, b, w, e, want, wantE)
			}
			if n := wide.Cmp(a, b); n != exact(a).Cmp(exact(b)) {
				t.Error("Cmp", a, b, n)
			}
		}
	}
}

// P2.1: the edges, written out.
func TestAddSubAtTheEdges(t *testing.T) {
	top := api.Wide{Hi: 1<<64 - 1, Lo: 1<<64 - 1}
	for i, c := range []struct {
		f    func(a, b api.Wide) (api.Wide, api.Errno)
		a, b api.Wide
		want api.Wide
		e    api.Errno
	}{
		{wide.Add, top, wide.Of(0), top, api.OK}, {wide.Add, top, wide.Of(1), api.Wide{}, api.ErrOver}, {wide.Add, top, top, api.Wide{}, api.ErrOver},
		{wide.Add, wide.Of(1<<64 - 1), wide.Of(1), api.Wide{Hi: 1}, api.OK}, {wide.Add, api.Wide{Hi: 1<<64 - 1}, api.Wide{Hi: 1}, api.Wide{}, api.ErrOver},
		{wide.Add, api.Wide{Hi: 1<<64 - 2, Lo: 1<<64 - 1}, api.Wide{Hi: 1, Lo: 1}, api.Wide{}, api.ErrOver},
		{wide.Sub, top, top, api.Wide{}, api.OK}, {wide.Sub, wide.Of(0), wide.Of(1), api.Wide{}, api.ErrOver}, {wide.Sub, wide.Of(0), top, api.Wide{}, api.ErrOver},
		{wide.Sub, api.Wide{Hi: 1}, wide.Of(1), wide.Of(1<<64 - 1), api.OK}, {wide.Sub, api.Wide{Hi: 1}, api.Wide{Hi: 1, Lo: 1}, api.Wide{}, api.ErrOver},
	} {
		if w, e := c.f(c.a, c.b); w != c.want || e != c.e {
			t.Error(i, w, e)
		}
	}
}

// P2.1
func TestDiv(t *testing.T) {
	for _, a := range wides() {
		for _, d := range words() {
			w, r, e := wide.Div(a, d)
			if d == 0 {
				if w != (api.Wide{}) || r != 0 || e != api.ErrZero {
					t.Error(a, w, r, e)
				}
				continue
			}
			quotient, rest := new(big.Int).QuoRem(exact(a), whole(d), new(big.Int))
			if exact(w).Cmp(quotient) != 0 || whole(r).Cmp(rest) != 0 || e != api.OK {
				t.Error(a, d, w, r, e, quotient, rest)
			}
		}
	}
}

// P2.2
func TestRoot(t *testing.T) {
	check := func(a api.Wide) {
		root := whole(wide.Root(a))
		next := new(big.Int).Add(root, whole(1))
		if new(big.Int).Mul(root, root).Cmp(exact(a)) > 0 || next.Mul(next, next).Cmp(exact(a)) <= 0 {
			t.Error(a, root)
		}
	}
	for _, a := range wides() {
		check(a)
	}
	for _, n := range words() {
		square := wide.Mul(n, n)
		check(square)
		if above, e := wide.Add(square, wide.Of(1)); e == api.OK {
			check(above)
		}
		if below, e := wide.Sub(square, wide.Of(1)); e == api.OK {
			check(below)
		}
	}
	for a, want := range map[api.Wide]uint64{{}: 0, {Lo: 1}: 1, {Lo: 3}: 1, {Lo: 4}: 2, {Lo: 8}: 2, {Lo: 9}: 3, {Hi: 1}: 1 << 32, {Hi: 1<<64 - 1, Lo: 1<<64 - 1}: 1<<64 - 1} {
		if n := wide.Root(a); n != want {
			t.Error(a, n)
		}
	}
}

// P2.4
func TestProds(t *testing.T) {
	numbers := []int{least, least + 1, -1 << 32, -8, -3, -2, -1, 0, 1, 2, 3, 5, 1 << 32, most - 1, most}
	product := func(a, b int) *big.Int {
		return new(big.Int).Mul(big.NewInt(int64(a)), big.NewInt(int64(b)))
	}
	for _, a := range numbers {
		for _, b := range numbers {
			for _, c := range numbers {
				for _, d := range numbers {
					if n := wide.Prods(a, b, c, d); n != product(a, b).Cmp(product(c, d)) {
						t.Error(a, b, c, d, n)
					}
				}
			}
		}
	}
	if n := wide.Prods(3, 5, -2, -8); n != -1 {
		t.Error(n)
	}
}
