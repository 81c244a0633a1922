package harm_test

import (
	"math/big"
	"testing"

	"copse/api"
	"copse/harm"
)

const (
	least = -1 << 63
	most  = 1<<63 - 1
)

// harmonic is H(n), exactly.
func harmonic(n int) *big.Rat {
	sum := new(big.Rat)
	for k := 1; k <= n; k++ {
		sum.Add(sum, big.NewRat(1, int64(k)))
	}
	return sum
}

// average is c(n), exactly.
func average(n int) *big.Rat {
	if n < 2 {
		return new(big.Rat)
	}
	c := new(big.Rat).Sub(harmonic(n-1), big.NewRat(int64(n-1), int64(n)))
	return c.Add(c, c)
}

// down is r rounded down.
func down(r *big.Rat) int {
	return int(new(big.Int).Div(r.Num(), r.Denom()).Int64())
}

// up is r rounded up.
func up(r *big.Rat) int {
	return -down(new(big.Rat).Neg(r))
}

// bounds are the sums of Unit/k, rounded down and up, for k from 1 to n.
func bounds(n int) (int, int) {
	low, high := 0, 0
	for k := 1; k <= n; k++ {
		part := big.NewRat(api.Unit, int64(k))
		low += down(part)
		high += up(part)
	}
	return low, high
}

// ends are what Ends has to answer.
func ends(n int) (int, int) {
	if n < 2 {
		return 0, 0
	}
	low, high := bounds(n - 1)
	less := big.NewRat(2*api.Unit*int64(n-1), int64(n))
	return 2*low - up(less), 2*high - down(less)
}

// beyond are numbers that are treated as others.
var beyond = map[int]int{
	-1: 0, -2: 0, -256: 0, -257: 0, least: 0, least + 1: 0,
	257: 256, 258: 256, 300: 256, 512: 256, 1 << 32: 256, 1<<32 + 3: 256, most - 1: 256, most: 256,
}

// P5.1
func TestLowAndHigh(t *testing.T) {
	for n := range api.MaxHarm + 1 {
		low, high := bounds(n)
		if got := harm.Low(n); got != low {
			t.Errorf("Low(%d) = %d, not %d", n, got, low)
		}
		if got := harm.High(n); got != high {
			t.Errorf("High(%d) = %d, not %d", n, got, high)
		}
	}
	if harm.Low(0) != 0 || harm.High(0) != 0 || harm.Low(3) != 1968526677 || harm.High(3) != 1968526678 {
		t.Error("the document's examples")
	}
}

// P5.1
func TestFrac(t *testing.T) {
	limit := big.NewInt(api.MaxPart)
	for n := range api.MaxHarm + 1 {
		h := harmonic(n)
		r, e := harm.Frac(n)
		if h.Num().Cmp(limit) > 0 || h.Denom().Cmp(limit) > 0 {
			if e != api.ErrOver || r != (api.Ratio{}) {
				t.Errorf("Frac(%d) = %v, %d, though it does not fit", n, r, e)
			}
			continue
		}
		if want := (api.Ratio{P: int(h.Num().Int64()), Q: int(h.Denom().Int64())}); r != want || e != api.OK {
			t.Errorf("Frac(%d) = %v, %d, not %v", n, r, e, want)
		}
	}
	for n, want := range map[int]api.Ratio{0: {P: 0, Q: 1}, 1: {P: 1, Q: 1}, 2: {P: 3, Q: 2}, 4: {P: 25, Q: 12}, 23: {P: 444316699, Q: 118982864}} {
		if r, e := harm.Frac(n); r != want || e != api.OK {
			t.Errorf("Frac(%d) = %v, %d", n, r, e)
		}
	}
	if _, e := harm.Frac(24); e != api.ErrOver {
		t.Error("Frac(24):", e)
	}
}

// P5.2
func TestEndsAndNorm(t *testing.T) {
	for n := range api.MaxHarm + 1 {
		lo, hi := ends(n)
		if a, b := harm.Ends(n); a != lo || b != hi {
			t.Errorf("Ends(%d) = %d, %d, not %d, %d", n, a, b, lo, hi)
		}
		if got := harm.Norm(n); got != (lo+hi)/2 {
			t.Errorf("Norm(%d) = %d, not %d", n, got, (lo+hi)/2)
		}
	}
	if harm.Norm(0) != 0 || harm.Norm(1) != 0 || harm.Norm(2) != api.Unit {
		t.Error("the document's examples")
	}
}

// P5.2
func TestTable(t *testing.T) {
	for n := range api.MaxHarm + 1 {
		l := harm.Table(n)
		if len(l) != n+1 {
			t.Fatalf("Table(%d) has %d numbers", n, len(l))
		}
		for k, norm := range l {
			if norm != harm.Norm(k) {
				t.Fatalf("Table(%d)[%d] = %d, not %d", n, k, norm, harm.Norm(k))
			}
		}
	}
}

// P5.2, R3
func TestTableIsNew(t *testing.T) {
	l := harm.Table(9)
	clear(l)
	if again := harm.Table(9); again[2] != api.Unit || again[9] != harm.Norm(9) {
		t.Error("a table that was changed comes back")
	}
}

// P5.1, P5.2: what is beyond the table's ends
func TestBeyond(t *testing.T) {
	for n, as := range beyond {
		if harm.Low(n) != harm.Low(as) || harm.High(n) != harm.High(as) || harm.Norm(n) != harm.Norm(as) {
			t.Error("Low, High or Norm of", n)
		}
		a, b := harm.Ends(n)
		if lo, hi := harm.Ends(as); a != lo || b != hi {
			t.Error("Ends of", n)
		}
		r, e := harm.Frac(n)
		if want, f := harm.Frac(as); r != want || e != f {
			t.Error("Frac of", n)
		}
		if l := harm.Table(n); len(l) != as+1 || l[as] != harm.Norm(as) {
			t.Error("Table of", n)
		}
	}
}

// within reports whether r times Unit is from lo to hi.
func within(r *big.Rat, lo, hi int) bool {
	v := new(big.Rat).Mul(r, big.NewRat(api.Unit, 1))
	return v.Cmp(big.NewRat(int64(lo), 1)) >= 0 && v.Cmp(big.NewRat(int64(hi), 1)) <= 0
}

// P5.3
func TestBounds(t *testing.T) {
	for n := range api.MaxHarm + 1 {
		if !within(harmonic(n), harm.Low(n), harm.High(n)) {
			t.Errorf("H(%d) is not from Low to High", n)
		}
		lo, hi := harm.Ends(n)
		if !within(average(n), lo, hi) {
			t.Errorf("c(%d) is not between the Ends", n)
		}
		if norm := harm.Norm(n); norm < lo || norm > hi {
			t.Errorf("Norm(%d) is not between the Ends", n)
		}
		if n > 1 && harm.Norm(n) <= harm.Norm(n-1) {
			t.Errorf("Norm(%d) does not increase", n)
		}
	}
}
