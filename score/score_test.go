package score_test

import (
	"math/big"
	"math/rand/v2"
	"slices"
	"testing"

	"copse/api"
	"copse/harm"
	"copse/score"
)

const (
	least = -1 << 63
	most  = 1<<63 - 1
	sum   = 1 << 38
)

// valid is scores of all Q: the least and the greatest ones, and some others, none of them twice.
func valid() []api.Score {
	var l []api.Score
	random := rand.New(rand.NewPCG(13, 1))
	for q := 1; q <= 16; q++ {
		parts := []int{0, 1, 2, 3, 4, 5, 7, 11, 30, 1<<30 - 1, 1 << 30, 1<<30 + 1, 1<<37 - 1, 1 << 37, sum - 3, sum - 2, sum - 1, sum}
		for range 5 {
			parts = append(parts, random.IntN(sum), random.IntN(1<<random.IntN(38)))
		}
		for _, p := range parts {
			s := api.Score{P: p, Q: q}
			if new(big.Int).GCD(nil, nil, big.NewInt(int64(p)), big.NewInt(int64(q))).Int64() == 1 && !slices.Contains(l, s) {
				l = append(l, s)
			}
		}
	}
	return l
}

// wrong is what is no valid score.
func wrong() []api.Score {
	return []api.Score{
		{}, {P: 1}, {P: 3, Q: 0}, {P: 0, Q: 2}, {P: 0, Q: 16}, {P: 2, Q: 2}, {P: 6, Q: 4}, {P: 15, Q: 10}, {P: 16, Q: 16}, {P: sum, Q: 2}, {P: sum, Q: 16},
		{P: -1, Q: 1}, {P: -1, Q: 2}, {P: 1, Q: -1}, {P: -1, Q: -1}, {P: 0, Q: -1}, {P: 1, Q: 17}, {P: 17, Q: 19}, {P: sum + 1, Q: 1}, {P: sum + 1, Q: 16},
		{P: most, Q: 1}, {P: least, Q: 1}, {P: 1, Q: most}, {P: 1, Q: least}, {P: most, Q: most}, {P: least, Q: least}, {P: least, Q: -1},
	}
}

func exact(s api.Score) *big.Rat {
	return big.NewRat(int64(s.P), int64(s.Q))
}

// P13.1
func TestOf(t *testing.T) {
	sums := []int{0, 1, 2, 3, 4, 5, 6, 7, 8, 11, 12, 13, 15, 16, 30, 720720, 6 * api.Unit, sum - 16, sum - 1, sum}
	random := rand.New(rand.NewPCG(13, 2))
	for range 200 {
		sums = append(sums, random.IntN(sum+1))
	}
	for _, n := range sums {
		for trees := 1; trees <= 16; trees++ {
			want := big.NewRat(int64(n), int64(trees))
			s, e := score.Of(n, trees)
			if int64(s.P) != want.Num().Int64() || int64(s.Q) != want.Denom().Int64() || e != api.OK || !score.Is(s) {
				t.Error(n, trees, s, e)
			}
		}
	}
	if s, e := score.Of(6*api.Unit, 4); s != (api.Score{P: 3 * api.Unit / 2, Q: 1}) || e != api.OK {
		t.Error(s, e)
	}
}

// P13.1, R2
func TestOfErrors(t *testing.T) {
	for _, c := range [][2]int{{-1, 1}, {-4, 2}, {sum + 1, 1}, {sum + 16, 16}, {most, 1}, {least, 1}, {0, 0}, {1, 0}, {1, -1}, {1, 17}, {0, 17}, {34, 17}, {1, most}, {1, least}, {-1, -1}, {least, -1}, {least, least}, {most, most}, {sum + 1, 0}} {
		if s, e := score.Of(c[0], c[1]); s != (api.Score{}) || e != api.ErrArg {
			t.Error(c, s, e)
		}
	}
}

// P13.1
func TestIs(t *testing.T) {
	for _, s := range valid() {
		if !score.Is(s) {
			t.Error(s)
		}
	}
	for _, s := range wrong() {
		if score.Is(s) {
			t.Error(s)
		}
	}
}

// P13.2, P13.5
func TestCmp(t *testing.T) {
	for _, a := range valid() {
		for _, b := range valid() {
			// The shorter one is the more anomalous one.
			if n, e := score.Cmp(a, b); n != exact(b).Cmp(exact(a)) || e != api.OK {
				t.Error(a, b, n, e)
			}
		}
	}
	for _, c := range []struct {
		a, b api.Score
		want int
	}{
		{api.Score{P: 1, Q: 3}, api.Score{P: 1, Q: 2}, 1}, {api.Score{P: 1, Q: 2}, api.Score{P: 1, Q: 3}, -1}, {api.Score{P: 5, Q: 4}, api.Score{P: 5, Q: 4}, 0}, {api.Score{P: 0, Q: 1}, api.Score{P: 1, Q: 16}, 1},
		{api.Score{P: sum, Q: 1}, api.Score{P: sum - 1, Q: 1}, -1}, {api.Score{P: sum - 1, Q: 14}, api.Score{P: sum - 1, Q: 16}, -1}, {api.Score{P: 8, Q: 15}, api.Score{P: 7, Q: 13}, 1},
	} {
		if n, e := score.Cmp(c.a, c.b); n != c.want || e != api.OK {
			t.Error(c, n, e)
		}
	}
}

// P13.2
func TestMean(t *testing.T) {
	for _, s := range valid() {
		want := new(big.Int).Quo(big.NewInt(int64(s.P)), big.NewInt(int64(s.Q)))
		if n, e := score.Mean(s); int64(n) != want.Int64() || e != api.OK {
			t.Error(s, n, e)
		}
	}
	for s, want := range map[api.Score]int{{P: 0, Q: 1}: 0, {P: 1, Q: 2}: 0, {P: 3, Q: 2}: 1, {P: 15, Q: 16}: 0, {P: 17, Q: 16}: 1, {P: 31, Q: 16}: 1, {P: sum, Q: 1}: sum, {P: sum - 1, Q: 2}: sum/2 - 1} {
		if n, e := score.Mean(s); n != want || e != api.OK {
			t.Error(s, n, e)
		}
	}
}

// level is that of s for n points, by the words: 1000 c divided by (c plus the score), rounded down.
func level(s api.Score, n int) int64 {
	c := new(big.Rat).SetInt64(int64(harm.Norm(n)))
	all := new(big.Rat).Add(c, exact(s))
	part := new(big.Rat).Quo(new(big.Rat).Mul(big.NewRat(1000, 1), c), all)
	return new(big.Int).Quo(part.Num(), part.Denom()).Int64()
}

// P13.2
func TestLevel(t *testing.T) {
	for _, s := range valid() {
		for n := 2; n <= 64; n++ {
			if got, e := score.Level(s, n); int64(got) != level(s, n) || e != api.OK {
				t.Error(s, n, got, e)
			}
		}
	}
	for i, c := range []struct {
		s       api.Score
		n, want int
	}{
		{api.Score{P: 3 * api.Unit / 2, Q: 1}, 2, 400}, {api.Score{P: 0, Q: 1}, 2, 1000}, {api.Score{P: 0, Q: 1}, 64, 1000}, {api.Score{P: 1, Q: 16}, 2, 999}, {api.Score{P: 1, Q: 1}, 64, 999}, {api.Score{P: api.Unit, Q: 1}, 2, 500},
		{api.Score{P: harm.Norm(64), Q: 1}, 64, 500}, {api.Score{P: harm.Norm(64) + 1, Q: 1}, 64, 499}, {api.Score{P: harm.Norm(3), Q: 1}, 3, 500}, {api.Score{P: 2*harm.Norm(3) + 1, Q: 2}, 3, 499}, {api.Score{P: sum, Q: 1}, 2, 3}, {api.Score{P: 999 * api.Unit / 4, Q: 1}, 2, 3},
	} {
		if got, e := score.Level(c.s, c.n); got != c.want || e != api.OK {
			t.Error(i, got, e)
		}
	}
}

// P13.2, P13.3, R2
func TestErrors(t *testing.T) {
	right := api.Score{P: 3, Q: 2}
	for _, n := range []int{1, 0, -1, 65, 256, most, least} {
		for _, s := range append(wrong(), right) {
			if got, e := score.Level(s, n); got != 0 || e != api.ErrArg {
				t.Error(s, n, got, e)
			}
		}
	}
	for _, s := range wrong() {
		for _, c := range [][2]api.Score{{s, right}, {right, s}, {s, s}} {
			if n, e := score.Cmp(c[0], c[1]); n != 0 || e != api.ErrScore {
				t.Error(c, n, e)
			}
		}
		if n, e := score.Mean(s); n != 0 || e != api.ErrScore {
			t.Error(s, n, e)
		}
		for _, n := range []int{2, 64} {
			if got, e := score.Level(s, n); got != 0 || e != api.ErrScore {
				t.Error(s, n, got, e)
			}
		}
		for _, l := range [][]api.Score{{s}, {s, right}, {right, s}, {right, right, s, right}} {
			if sorted, e := score.Sort(l); len(sorted) != 0 || e != api.ErrScore {
				t.Error(l, sorted, e)
			}
			if n, e := score.Oddest(l); n != 0 || e != api.ErrScore {
				t.Error(l, n, e)
			}
		}
	}
	for _, l := range [][]api.Score{nil, {}} {
		if n, e := score.Oddest(l); n != 0 || e != api.ErrNone {
			t.Error(n, e)
		}
		if sorted, e := score.Sort(l); len(sorted) != 0 || e != api.OK {
			t.Error(sorted, e)
		}
	}
}

// some is n scores of valid ones, in any order, some of them several times.
func some(random *rand.Rand, n int) []api.Score {
	all := valid()
	few := 1 + random.IntN(len(all))
	var l []api.Score
	for range n {
		l = append(l, all[random.IntN(few)])
	}
	return l
}

// ascending is -1, 0 or 1 if a is more, as, or less anomalous than b.
func ascending(a, b api.Score) int {
	return exact(a).Cmp(exact(b))
}

// P13.3, R3
func TestSortAndOddest(t *testing.T) {
	random := rand.New(rand.NewPCG(13, 3))
	lengths := []int{4096}
	for n := 1; n < 130; n++ {
		lengths = append(lengths, n)
	}
	for _, n := range lengths {
		room := append(some(random, n), api.Score{P: 77, Q: 1})
		l, before := room[:n], slices.Clone(room)
		want := slices.Clone(l)
		slices.SortFunc(want, func(a, b api.Score) int { return ascending(b, a) })
		got, e := score.Sort(l)
		if !slices.Equal(got, want) || e != api.OK {
			t.Fatal(l, got, e)
		}
		oddest, e := score.Oddest(l)
		if l[oddest] != want[n-1] || slices.Index(l, want[n-1]) != oddest || e != api.OK {
			t.Fatal(l, oddest, e)
		}
		for i := range got {
			got[i] = api.Score{}
		}
		_ = append(got, api.Score{})
		if !slices.Equal(room, before) {
			t.Fatal("what was handed in was changed")
		}
	}
}

// P13.3: lists that are in order already, the other way round, or of one score.
func TestSortOfOrdered(t *testing.T) {
	want := valid()
	slices.SortFunc(want, func(a, b api.Score) int { return ascending(b, a) })
	back := slices.Clone(want)
	slices.Reverse(back)
	for _, l := range [][]api.Score{want, back} {
		if got, e := score.Sort(l); !slices.Equal(got, want) || e != api.OK {
			t.Error(got, e)
		}
	}
	for i, l := range [][]api.Score{want, back} {
		if n, e := score.Oddest(l); n != (len(want)-1)*(1-i) || e != api.OK {
			t.Error(i, n, e)
		}
	}
	same := slices.Repeat(want[5:6], 9)
	if got, e := score.Sort(same); !slices.Equal(got, same) || e != api.OK {
		t.Error(got, e)
	}
	if n, e := score.Oddest(same); n != 0 || e != api.OK {
		t.Error(n, e)
	}
}

// P13.5
func TestTransitive(t *testing.T) {
	random := rand.New(rand.NewPCG(13, 4))
	l := some(random, 60)
	for _, a := range l {
		for _, b := range l {
			first, _ := score.Cmp(a, b)
			for _, c := range l {
				second, _ := score.Cmp(b, c)
				both, _ := score.Cmp(a, c)
				if first == second && both != first {
					t.Fatal(a, b, c)
				}
			}
			for n := 2; n <= 64; n++ {
				high, _ := score.Level(a, n)
				low, _ := score.Level(b, n)
				if first > 0 && high < low {
					t.Fatal(a, b, n, high, low)
				}
			}
		}
	}
}
