package draw_test

import (
	"math/big"
	"math/rand/v2"
	"slices"
	"testing"

	"copse/api"
	"copse/draw"
)

const (
	top     = 1<<64 - 1
	least   = -1 << 63
	most    = 1<<63 - 1
	someday = 1 << 62
)

// bounds are edges of what draws are bounded by, and some others.
func bounds() []uint64 {
	l := []uint64{1, 2, 3, 4, 5, 6, 7, 8, 10, 12, 100, 255, 256, 257, 1000, 1<<31 - 1, 1 << 31, 1<<32 - 1, 1 << 32, 1<<32 + 1, 6700417, 641, 1<<62 - 1, 1 << 62, 1<<62 + 1, 1<<63 - 1, 1 << 63, 1<<63 + 1, 3 << 62, 3<<62 + 1, top - 2, top - 1, top, top / 3, top/3 + 1, top / 5}
	random := rand.New(rand.NewPCG(6, 1))
	for range 60 {
		l = append(l, random.Uint64()>>random.UintN(64)|1)
	}
	return l
}

// whole is 2^64.
func whole() *big.Int {
	return new(big.Int).Lsh(big.NewInt(1), 64)
}

func large(n uint64) *big.Int {
	return new(big.Int).SetUint64(n)
}

// greatest is the greatest draw that counts for n.
func greatest(n uint64) uint64 {
	w := whole()
	w.Sub(w, new(big.Int).Mod(whole(), large(n)))
	return w.Sub(w, big.NewInt(1)).Uint64()
}

// P6.1
func TestNext(t *testing.T) {
	l := []uint64{7, 0, top}
	for i, c := range []struct {
		at   int
		want uint64
		next int
		e    api.Errno
	}{
		{0, 7, 1, api.OK}, {1, 0, 2, api.OK}, {2, top, 3, api.OK},
		{3, 0, 0, api.ErrDraws}, {4, 0, 0, api.ErrDraws}, {most, 0, 0, api.ErrDraws},
		{-1, 0, 0, api.ErrArg}, {least, 0, 0, api.ErrArg},
	} {
		if d, next, e := draw.Next(l, c.at); d != c.want || next != c.next || e != c.e {
			t.Error(i, d, next, e)
		}
	}
	if _, _, e := draw.Next(nil, 0); e != api.ErrDraws {
		t.Error("of no draws:", e)
	}
	if _, _, e := draw.Next(nil, -1); e != api.ErrArg {
		t.Error("of no draws, and of no position:", e)
	}
}

// P6.1: what lies in a list's spare room is no draw
func TestNextNotBeyondTheEnd(t *testing.T) {
	l := []uint64{1, 2, 3}[:2]
	if _, _, e := draw.Next(l, 2); e != api.ErrDraws {
		t.Error(e)
	}
	if u := draw.Used(l, 1, 3); len(u) != 0 {
		t.Error(u)
	}
}

// P6.1
func TestLeft(t *testing.T) {
	l := []uint64{7, 0, top}
	for at, want := range map[int]int{0: 3, 1: 2, 2: 1, 3: 0, 4: 0, most: 0, -1: 0, -3: 0, least: 0} {
		if got := draw.Left(l, at); got != want {
			t.Errorf("Left at %d = %d, not %d", at, got, want)
		}
	}
	if draw.Left(nil, 0) != 0 || draw.Left([]uint64{}, -1) != 0 {
		t.Error("of no draws")
	}
}

// P6.1
func TestUsed(t *testing.T) {
	l := []uint64{10, 11, 12, 13}
	for i, c := range []struct {
		from, to int
		want     []uint64
	}{
		{0, 4, l}, {0, 1, l[:1]}, {1, 3, l[1:3]}, {3, 4, l[3:]}, {0, 0, nil}, {2, 2, nil}, {4, 4, nil},
		{3, 5, nil}, {0, 5, nil}, {4, 5, nil}, {5, 5, nil}, {0, most, nil}, {most, most, nil},
		{3, 2, nil}, {4, 0, nil}, {5, 4, nil},
		{-1, 2, nil}, {-1, -1, nil}, {least, 1, nil}, {1, -1, nil}, {least, most, nil}, {most, least, nil},
	} {
		if got := draw.Used(l, c.from, c.to); !slices.Equal(got, c.want) {
			t.Error(i, got)
		}
	}
	if u := draw.Used(nil, 0, 0); len(u) != 0 {
		t.Error(u)
	}
}

// P6.1, R3
func TestUsedIsNew(t *testing.T) {
	l := []uint64{10, 11, 12, 13}
	u := draw.Used(l, 1, 3)
	u[0] = 99
	_ = append(u, 98)
	if !slices.Equal(l, []uint64{10, 11, 12, 13}) {
		t.Error("the draws changed with what was used of them:", l)
	}
}

// P6.2, P6.4
func TestTop(t *testing.T) {
	if draw.Top(0) != 0 {
		t.Error("Top(0)")
	}
	for _, n := range bounds() {
		got := draw.Top(n)
		if got != greatest(n) {
			t.Errorf("Top(%d) = %d, not %d", n, got, greatest(n))
		}
		counting := new(big.Int).Add(large(got), big.NewInt(1))
		if new(big.Int).Mod(counting, large(n)).Sign() != 0 {
			t.Errorf("of the draws that count for %d, not equally many have each value", n)
		}
		if top-got >= n {
			t.Errorf("%d draws do not count for %d", top-got, n)
		}
	}
	for n, want := range map[uint64]uint64{1: top, 2: top, 3: top - 1, 5: top - 1, 7: top - 2, 1 << 63: top, 1<<63 + 1: 1 << 63, top: top - 1, top - 1: top - 2} {
		if got := draw.Top(n); got != want {
			t.Errorf("Top(%d) = %d", n, got)
		}
	}
}

// P6.2
func TestShare(t *testing.T) {
	for n, want := range map[uint64]uint64{0: 0, 1: 0, 2: 1 << 63, 3: 6148914691236517205, 4: 1 << 62, 1 << 63: 2, 1<<63 + 1: 1, top: 1} {
		if got := draw.Share(n); got != want {
			t.Errorf("Share(%d) = %d, not %d", n, got, want)
		}
	}
	for _, n := range bounds() {
		if n < 2 {
			continue
		}
		if want := new(big.Int).Div(whole(), large(n)).Uint64(); draw.Share(n) != want {
			t.Errorf("Share(%d) = %d, not %d", n, draw.Share(n), want)
		}
	}
}

// drawn is a value, the position after it, and an error.
type drawn struct {
	v    uint64
	next int
	e    api.Errno
}

// bound is what Bound has to answer.
func bound(l []uint64, at int, n uint64, tries int) drawn {
	if n == 0 || at < 0 || tries < 1 || tries > api.MaxTries {
		return drawn{e: api.ErrArg}
	}
	for failed := 0; failed < tries; failed++ {
		if at+failed >= len(l) {
			return drawn{e: api.ErrDraws}
		}
		if d := l[at+failed]; d <= greatest(n) {
			return drawn{v: new(big.Int).Mod(large(d), large(n)).Uint64(), next: at + failed + 1}
		}
	}
	return drawn{e: api.ErrTries}
}

// P6.3
func TestBound(t *testing.T) {
	l := []uint64{top, top, 5, 1 << 63}
	for i, c := range []struct {
		at    int
		n     uint64
		tries int
		want  drawn
	}{
		{0, 3, 3, drawn{v: 2, next: 3}}, {0, 3, api.MaxTries, drawn{v: 2, next: 3}}, {2, 3, 1, drawn{v: 2, next: 3}}, {2, 1, 1, drawn{next: 3}}, {0, 1, 1, drawn{next: 1}},
		{0, 4, 1, drawn{v: 3, next: 1}}, {1, 1 << 63, 1, drawn{v: most, next: 2}}, {3, 1 << 63, 1, drawn{next: 4}}, {3, 1<<63 + 1, 1, drawn{v: 1 << 63, next: 4}}, {2, top, 1, drawn{v: 5, next: 3}},
		{0, 3, 1, drawn{e: api.ErrTries}}, {0, 3, 2, drawn{e: api.ErrTries}}, {1, top, 1, drawn{e: api.ErrTries}},
		{4, 2, 1, drawn{e: api.ErrDraws}}, {5, 2, 1, drawn{e: api.ErrDraws}}, {most, 2, 1, drawn{e: api.ErrDraws}}, {4, 1, api.MaxTries, drawn{e: api.ErrDraws}},
		{0, 0, 1, drawn{e: api.ErrArg}}, {-1, 2, 1, drawn{e: api.ErrArg}}, {least, 2, 1, drawn{e: api.ErrArg}}, {2, 2, 0, drawn{e: api.ErrArg}}, {2, 2, -1, drawn{e: api.ErrArg}}, {2, 2, api.MaxTries + 1, drawn{e: api.ErrArg}}, {2, 2, most, drawn{e: api.ErrArg}}, {2, 2, least, drawn{e: api.ErrArg}},
		{9, 0, 1, drawn{e: api.ErrArg}}, {9, 2, 0, drawn{e: api.ErrArg}},
	} {
		v, next, e := draw.Bound(l, c.at, c.n, c.tries)
		if got := (drawn{v, next, e}); got != c.want || got != bound(l, c.at, c.n, c.tries) {
			t.Error(i, got)
		}
	}
}

// P6.3: the draws end, or the tries do, or both at once
func TestBoundEnds(t *testing.T) {
	l := make([]uint64, api.MaxTries+2)
	for i := range l {
		l[i] = top
	}
	for have := range len(l) + 1 {
		for tries := 1; tries <= api.MaxTries; tries++ {
			want := api.ErrTries
			if have < tries {
				want = api.ErrDraws
			}
			if v, next, e := draw.Bound(l[:have], 0, 3, tries); v != 0 || next != 0 || e != want {
				t.Fatal(have, tries, v, next, e)
			}
		}
	}
	l[api.MaxTries-1] = 8
	if v, next, e := draw.Bound(l, 0, 3, api.MaxTries); v != 2 || next != api.MaxTries || e != api.OK {
		t.Error("the last try:", v, next, e)
	}
	if _, _, e := draw.Bound(l, 0, 3, api.MaxTries-1); e != api.ErrTries {
		t.Error("the try before the last:", e)
	}
}

// lists are some draws around what counts for n.
func lists(n uint64, random *rand.Rand) []uint64 {
	edge := greatest(n)
	l := []uint64{}
	for range random.IntN(8) {
		l = append(l, []uint64{0, n - 1, n, edge, edge + 1, edge - 1, top, top, random.Uint64()}[random.IntN(9)])
	}
	return l
}

// P6.3, P6.4, R3
func TestBoundOfMany(t *testing.T) {
	random := rand.New(rand.NewPCG(6, 3))
	for _, n := range bounds() {
		for range 60 {
			l := lists(n, random)
			given := slices.Clone(l)
			at, tries := random.IntN(4), 1+random.IntN(4)
			v, next, e := draw.Bound(l, at, n, tries)
			if got := (drawn{v, next, e}); got != bound(l, at, n, tries) {
				t.Fatal(l, at, n, tries, got)
			}
			if !slices.Equal(l, given) {
				t.Fatal("the draws were changed")
			}
			if e != api.OK {
				continue
			}
			for i := next; i < len(l); i++ {
				l[i] = random.Uint64()
			}
			if w, after, e := draw.Bound(l, at, n, tries); w != v || after != next || e != api.OK {
				t.Fatal("draws after the position have an influence")
			}
		}
	}
}

// P6.4: each value below n has an equal share of the draws that count, seen on the draws next to each other
func TestBoundIsEven(t *testing.T) {
	for n := uint64(1); n < 40; n++ {
		seen := map[uint64]int{}
		for i := range 5 * n {
			for _, d := range []uint64{i, draw.Top(n) - i} {
				v, _, e := draw.Bound([]uint64{d}, 0, n, 1)
				if v >= n || e != api.OK {
					t.Fatal(n, d, v, e)
				}
				seen[v]++
			}
		}
		for v := range n {
			if seen[v] != 10 {
				t.Errorf("of %d, %d comes %d times", n, v, seen[v])
			}
		}
	}
}

// P6.3
func TestRange(t *testing.T) {
	l := []uint64{top, top, 5, 1 << 63}
	for i, c := range []struct {
		at, lo, hi, tries int
		v, next           int
		e                 api.Errno
	}{
		{2, 0, 2, 1, 2, 3, api.OK}, {0, 0, 2, 3, 2, 3, api.OK}, {2, -7, -7, 1, -7, 3, api.OK}, {2, least, least, 1, least, 3, api.OK}, {2, most, most, 1, most, 3, api.OK}, {2, -1, 1, 1, 1, 3, api.OK}, {2, -4, 5, 1, 1, 3, api.OK},
		{2, least, most, 1, 5, 3, api.OK}, {3, least, most, 1, least, 4, api.OK}, {0, least, most, 1, -1, 1, api.OK},
		{3, least, most - 1, 1, 0, 4, api.OK}, {3, least + 1, most, 1, 1, 4, api.OK}, {3, least, 0, 1, 0, 4, api.OK}, {3, -1, most, 1, most, 4, api.OK}, {1, 0, most, 1, most, 2, api.OK}, {1, least, -1, 1, -1, 2, api.OK},
		{0, least, most - 1, 2, 0, 0, api.ErrTries}, {0, 0, 2, 2, 0, 0, api.ErrTries}, {0, 5, 7, 1, 0, 0, api.ErrTries},
		{4, 5, 7, 1, 0, 0, api.ErrDraws}, {4, 5, 5, 1, 0, 0, api.ErrDraws}, {4, least, most, 1, 0, 0, api.ErrDraws}, {most, least, most, 1, 0, 0, api.ErrDraws},
		{2, 1, 0, 1, 0, 0, api.ErrArg}, {2, most, least, 1, 0, 0, api.ErrArg}, {2, 0, -1, 1, 0, 0, api.ErrArg}, {-1, 5, 7, 1, 0, 0, api.ErrArg}, {-1, least, most, 1, 0, 0, api.ErrArg},
		{2, 5, 7, 0, 0, 0, api.ErrArg}, {2, least, most, 0, 0, 0, api.ErrArg}, {2, 5, 7, api.MaxTries + 1, 0, 0, api.ErrArg}, {2, least, most, api.MaxTries + 1, 0, 0, api.ErrArg}, {9, 1, 0, 1, 0, 0, api.ErrArg},
	} {
		if v, next, e := draw.Range(l, c.at, c.lo, c.hi, c.tries); v != c.v || next != c.next || e != c.e {
			t.Error(i, v, next, e)
		}
	}
}

// P6.3
func TestRangeOfMany(t *testing.T) {
	random := rand.New(rand.NewPCG(6, 4))
	edges := []int{least, least + 1, -someday, -1 << 32, -3, -1, 0, 1, 2, 7, 1 << 32, someday, most - 1, most}
	for _, lo := range edges {
		for _, hi := range edges {
			if lo > hi || hi-lo == -1 {
				continue
			}
			n := new(big.Int).Sub(big.NewInt(int64(hi)), big.NewInt(int64(lo)))
			n.Add(n, big.NewInt(1))
			for range 40 {
				l := lists(n.Uint64(), random)
				at, tries := random.IntN(3), 1+random.IntN(4)
				want := bound(l, at, n.Uint64(), tries)
				v, next, e := draw.Range(l, at, lo, hi, tries)
				sum := new(big.Int).Add(big.NewInt(int64(lo)), large(want.v))
				if want.e != api.OK {
					sum.SetInt64(0)
				}
				if int64(v) != sum.Int64() || next != want.next || e != want.e {
					t.Fatal(l, at, lo, hi, tries, v, next, e)
				}
			}
		}
	}
}

// P6.3
func TestCoin(t *testing.T) {
	l := []uint64{top, top, 5, 1 << 63}
	for i, c := range []struct {
		at, part, whole, tries int
		is                     bool
		next                   int
		e                      api.Errno
	}{
		{2, 0, 9, 1, false, 3, api.OK}, {2, 5, 9, 1, false, 3, api.OK}, {2, 6, 9, 1, true, 3, api.OK}, {2, 9, 9, 1, true, 3, api.OK}, {2, 1, 1, 1, true, 3, api.OK}, {2, 0, 1, 1, false, 3, api.OK}, {2, 1, 5, 1, true, 3, api.OK},
		{0, 2, 3, 3, false, 3, api.OK}, {0, 3, 3, 3, true, 3, api.OK}, {3, 3, most, 1, true, 4, api.OK}, {3, 2, most, 1, true, 4, api.OK}, {3, 1, most, 1, false, 4, api.OK},
		{0, 3, 3, 2, false, 0, api.ErrTries}, {0, 0, 3, 1, false, 0, api.ErrTries}, {4, 1, 1, 1, false, 0, api.ErrDraws}, {most, 1, 2, 1, false, 0, api.ErrDraws},
		{2, 3, 2, 1, false, 0, api.ErrArg}, {2, 2, 1, 1, false, 0, api.ErrArg}, {2, -1, 2, 1, false, 0, api.ErrArg}, {2, 0, 0, 1, false, 0, api.ErrArg}, {2, 0, -1, 1, false, 0, api.ErrArg}, {2, -2, -1, 1, false, 0, api.ErrArg}, {2, least, most, 1, false, 0, api.ErrArg}, {2, 0, least, 1, false, 0, api.ErrArg}, {2, most, least, 1, false, 0, api.ErrArg},
		{-1, 1, 2, 1, false, 0, api.ErrArg}, {2, 1, 2, 0, false, 0, api.ErrArg}, {2, 1, 2, -1, false, 0, api.ErrArg}, {2, 1, 2, api.MaxTries + 1, false, 0, api.ErrArg}, {9, 3, 2, 1, false, 0, api.ErrArg},
	} {
		if is, next, e := draw.Coin(l, c.at, c.part, c.whole, c.tries); is != c.is || next != c.next || e != c.e {
			t.Error(i, is, next, e)
		}
	}
}

// P6.3, P6.4: of the values below whole, part come up true
func TestCoinIsFair(t *testing.T) {
	for whole := 1; whole < 20; whole++ {
		for part := range whole + 1 {
			heads := 0
			for d := range whole {
				is, _, e := draw.Coin([]uint64{uint64(d)}, 0, part, whole, 1)
				if e != api.OK {
					t.Fatal(e)
				}
				if is {
					heads++
				}
			}
			if heads != part {
				t.Errorf("%d of %d come up %d times", part, whole, heads)
			}
		}
	}
}
