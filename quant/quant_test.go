package quant_test

import (
	"math/big"
	"math/rand/v2"
	"slices"
	"testing"

	"copse/api"
	"copse/bag"
	"copse/quant"
)

const (
	least = -1 << 63
	most  = 1<<63 - 1
	sum   = 1 << 38
)

// of is the valid score that is p divided by q.
func of(p, q int) api.Score {
	r := big.NewRat(int64(p), int64(q))
	return api.Score{P: int(r.Num().Int64()), Q: int(r.Denom().Int64())}
}

// less is the number of elements of l that are less anomalous than s, which is longer than it, and the number of those that are as anomalous.
func less(l []api.Score, s api.Score) (int, int) {
	below, same := 0, 0
	for _, o := range l {
		// Below 2^43.
		switch own, other := s.P*o.Q, o.P*s.Q; {
		case other > own:
			below++
		case other == own:
			same++
		}
	}
	return below, same
}

// edges is scores near each other, the least and the greatest ones.
func edges() []api.Score {
	return []api.Score{
		of(0, 1), of(1, 16), of(1, 15), of(1, 2), of(7, 13), of(8, 15), of(7, 15), of(15, 16), of(1, 1), of(17, 16), of(3, 2), of(2, 1), of(3, 1),
		of(1<<37, 1), of(sum-1, 16), of(sum-1, 15), of(sum-1, 14), of(sum-2, 13), of(sum-1, 2), of(sum-1, 1), of(sum, 1), of(sum, 3), of(sum, 15),
	}
}

// wrong is what is no valid score.
func wrong() []api.Score {
	return []api.Score{
		{}, {P: 1}, {P: 0, Q: 2}, {P: 0, Q: 16}, {P: 2, Q: 2}, {P: 6, Q: 4}, {P: 16, Q: 16}, {P: sum, Q: 2}, {P: -1, Q: 1}, {P: 1, Q: -1}, {P: -1, Q: -1}, {P: 0, Q: -1},
		{P: 1, Q: 17}, {P: 34, Q: 17}, {P: sum + 1, Q: 1}, {P: sum + 1, Q: 16}, {P: most, Q: 1}, {P: least, Q: 1}, {P: 1, Q: most}, {P: 1, Q: least}, {P: least, Q: least}, {P: least, Q: -1},
	}
}

// parts is pairs of part and whole that are allowed, with the edges.
func parts() [][2]int {
	return [][2]int{{1, 2}, {1, 3}, {2, 3}, {1, 4}, {3, 4}, {1, 5}, {1, 10}, {9, 10}, {7, 20}, {333, 999}, {1, 999}, {998, 999}, {1, 1000}, {500, 1000}, {501, 1000}, {999, 1000}}
}

// notParts is pairs of part and whole that are not allowed.
func notParts() [][2]int {
	return [][2]int{
		{0, 2}, {2, 2}, {3, 2}, {-1, 2}, {least, 2}, {most, 2}, {0, 1}, {1, 1}, {0, 0}, {1, 0}, {-1, 0}, {-2, -1}, {1, -1}, {1, -2}, {-3, -2},
		{1, 1001}, {1000, 1000}, {1001, 1000}, {0, 1000}, {1000, 1001}, {1, most}, {most - 1, most}, {1, least}, {least, least}, {most, least}, {least, most},
	}
}

// lists is scores in no order, with equal ones among them.
func lists() [][]api.Score {
	random := rand.New(rand.NewPCG(19, 1))
	l := [][]api.Score{{of(0, 1)}, {of(sum, 1)}, edges(), slices.Repeat(edges(), 3), slices.Repeat([]api.Score{of(5, 2)}, 64)}
	for n := range 90 {
		own := make([]api.Score, 1+n)
		many := 1 << random.IntN(38)
		for i := range own {
			own[i] = of(random.IntN(many), 1+random.IntN(16))
		}
		l = append(l, own)
	}
	for _, n := range []int{255, 256, 1000, api.MaxBag - 1, api.MaxBag} {
		own := make([]api.Score, n)
		for i := range own {
			own[i] = of(random.IntN(2*n), 1+random.IntN(4))
		}
		l = append(l, own)
	}
	return l
}

// rank is the least number that times whole is not below (whole - part) times n.
func rank(n, part, whole int) int {
	k := 0
	for k*whole < (whole-part)*n {
		k++
	}
	return k
}

// P19.1
func TestIndex(t *testing.T) {
	for _, n := range []int{1, 2, 3, 7, 10, 11, 64, 100} {
		for whole := 2; whole <= 1000; whole += 1 + whole/30 {
			for part := 1; part < whole; part++ {
				if k, e := quant.Index(n, part, whole); k != rank(n, part, whole) || e != api.OK {
					t.Fatal(n, part, whole, k, e)
				}
			}
		}
	}
	for n := 1; n <= api.MaxBag; n += 1 + n%7 {
		for _, c := range parts() {
			if k, e := quant.Index(n, c[0], c[1]); k != rank(n, c[0], c[1]) || e != api.OK {
				t.Fatal(n, c, k, e)
			}
		}
	}
	for _, c := range [][4]int{{10, 1, 10, 9}, {11, 1, 10, 10}, {1, 1, 2, 1}, {2, 1, 2, 1}, {3, 1, 2, 2}, {1, 999, 1000, 1}, {1, 1, 1000, 1}, {4096, 999, 1000, 5}, {4096, 1, 1000, 4092}, {4096, 1, 2, 2048}, {4095, 1, 2, 2048}} {
		if k, e := quant.Index(c[0], c[1], c[2]); k != c[3] || e != api.OK {
			t.Error(c, k, e)
		}
	}
}

// P19.1
func TestIndexErrors(t *testing.T) {
	for _, n := range []int{0, -1, -10, 4097, 5000, 1 << 32, 1 << 62, least, most} {
		for _, c := range append(parts(), notParts()...) {
			if k, e := quant.Index(n, c[0], c[1]); k != 0 || e != api.ErrArg {
				t.Error(n, c, k, e)
			}
		}
	}
	for _, n := range []int{1, 2, 10, 4096} {
		for _, c := range notParts() {
			if k, e := quant.Index(n, c[0], c[1]); k != 0 || e != api.ErrArg {
				t.Error(n, c, k, e)
			}
		}
	}
}

// bagOf is a bag with the scores of l.
func bagOf(t *testing.T, l []api.Score) *bag.Bag {
	t.Helper()
	b := bag.New()
	for i, s := range l {
		if e := b.Add(s); e != api.OK {
			t.Fatal(i, s, e)
		}
	}
	return b
}

// P19.2, R3: in no order, or in one, the line is the score with fewer before it than its rank, and with those equal to it enough of them.
func TestLine(t *testing.T) {
	for i, l := range lists() {
		given, b := slices.Clone(l), bagOf(t, l)
		kept := b.All()
		for _, c := range parts() {
			k := rank(len(l), c[0], c[1])
			line, e := quant.Line(l, c[0], c[1])
			below, same := less(l, line)
			if e != api.OK || below >= k || below+same < k || !slices.Contains(l, line) {
				t.Error(i, c, line, e, k, below, same)
			}
			if other, e := quant.Of(b, c[0], c[1]); other != line || e != api.OK {
				t.Error(i, c, other, e, line)
			}
		}
		if !slices.Equal(l, given) || !slices.Equal(b.All(), kept) {
			t.Error(i, "what was passed is changed")
		}
	}
}

// P19.2: the document's example, and others by hand.
func TestLineExamples(t *testing.T) {
	for i, c := range []struct {
		l           []api.Score
		part, whole int
		want        api.Score
	}{
		{[]api.Score{of(1, 1), of(2, 1), of(3, 1)}, 1, 2, of(2, 1)},
		{[]api.Score{of(3, 1), of(1, 1), of(2, 1)}, 1, 2, of(2, 1)},
		{[]api.Score{of(1, 1), of(2, 1), of(3, 1)}, 1, 1000, of(1, 1)},
		{[]api.Score{of(1, 1), of(2, 1), of(3, 1)}, 999, 1000, of(3, 1)},
		{[]api.Score{of(1, 1), of(2, 1)}, 1, 2, of(2, 1)},
		{[]api.Score{of(7, 13), of(8, 15), of(7, 15)}, 1, 3, of(8, 15)},
		{[]api.Score{of(5, 4)}, 1, 2, of(5, 4)},
		{[]api.Score{of(5, 4), of(5, 4), of(0, 1)}, 1, 3, of(5, 4)},
	} {
		if s, e := quant.Line(c.l, c.part, c.whole); s != c.want || e != api.OK {
			t.Error(i, s, e)
		}
		if s, e := quant.Of(bagOf(t, c.l), c.part, c.whole); s != c.want || e != api.OK {
			t.Error(i, s, e)
		}
	}
}

// P19.2, R2: ErrArg is before ErrScore.
func TestLineErrors(t *testing.T) {
	long := slices.Repeat([]api.Score{of(1, 2)}, api.MaxBag+1)
	longWrong := make([]api.Score, api.MaxBag+1)
	for _, c := range parts() {
		for i, l := range [][]api.Score{nil, {}, long, longWrong} {
			if s, e := quant.Line(l, c[0], c[1]); s != (api.Score{}) || e != api.ErrArg {
				t.Error(i, c, s, e)
			}
		}
		for _, s := range wrong() {
			for i, l := range [][]api.Score{{s}, {s, of(1, 2), of(1, 3)}, {of(1, 2), s, of(1, 3)}, {of(1, 2), of(1, 3), s}, append(slices.Clone(long[:api.MaxBag-1]), s)} {
				if s, e := quant.Line(l, c[0], c[1]); s != (api.Score{}) || e != api.ErrScore {
					t.Error(i, c, l, s, e)
				}
			}
		}
	}
	for _, c := range notParts() {
		for i, l := range [][]api.Score{nil, edges(), long[1:], long, wrong(), longWrong} {
			if s, e := quant.Line(l, c[0], c[1]); s != (api.Score{}) || e != api.ErrArg {
				t.Error(i, c, s, e)
			}
		}
	}
}

// P19.2
func TestOfErrors(t *testing.T) {
	for _, c := range append(parts(), notParts()...) {
		if s, e := quant.Of(nil, c[0], c[1]); s != (api.Score{}) || e != api.ErrShut {
			t.Error(c, s, e)
		}
		if s, e := quant.Of(bag.New(), c[0], c[1]); s != (api.Score{}) || e != api.ErrArg {
			t.Error(c, s, e)
		}
	}
	b := bagOf(t, edges())
	for _, c := range notParts() {
		if s, e := quant.Of(b, c[0], c[1]); s != (api.Score{}) || e != api.ErrArg {
			t.Error(c, s, e)
		}
	}
	if !slices.Equal(b.All(), bagOf(t, edges()).All()) {
		t.Error("the bag is changed")
	}
}

// P19.2, R5: the line follows what comes and goes.
func TestOfFollows(t *testing.T) {
	random := rand.New(rand.NewPCG(19, 2))
	b := bag.New()
	var l []api.Score
	for i := range 600 {
		s := of(random.IntN(40), 1+random.IntN(3))
		l = append(l, s)
		b.Add(s)
		if len(l) > 100 {
			b.Drop(l[0])
			l = l[1:]
		}
		c := parts()[i%len(parts())]
		want, _ := quant.Line(l, c[0], c[1])
		if line, e := quant.Of(b, c[0], c[1]); line != want || e != api.OK {
			t.Fatal(i, c, line, e, want)
		}
	}
}

// P19.3
func TestOver(t *testing.T) {
	for _, s := range edges() {
		for _, line := range edges() {
			below, same := less([]api.Score{line}, s)
			if is, e := quant.Over(s, line); is != (below+same == 1) || e != api.OK {
				t.Error(s, line, is, e)
			}
		}
	}
	for i, c := range []struct {
		s, line api.Score
		want    bool
	}{
		{of(1, 2), of(1, 2), true}, {of(1, 3), of(1, 2), true}, {of(1, 2), of(1, 3), false}, {of(0, 1), of(0, 1), true}, {of(0, 1), of(sum, 1), true}, {of(sum, 1), of(0, 1), false},
		{of(sum, 1), of(sum, 1), true}, {of(8, 15), of(7, 13), true}, {of(7, 13), of(8, 15), false}, {of(sum-1, 1), of(sum, 1), true}, {of(sum, 1), of(sum-1, 1), false},
	} {
		if is, e := quant.Over(c.s, c.line); is != c.want || e != api.OK {
			t.Error(i, is, e)
		}
	}
}

// P19.3
func TestOverErrors(t *testing.T) {
	for _, s := range wrong() {
		for _, o := range append(wrong(), edges()...) {
			if is, e := quant.Over(s, o); is || e != api.ErrScore {
				t.Error(s, o, is, e)
			}
			if is, e := quant.Over(o, s); is || e != api.ErrScore {
				t.Error(o, s, is, e)
			}
		}
	}
}

// P19.3, R3
func TestCountShare(t *testing.T) {
	for i, l := range lists() {
		given := slices.Clone(l)
		for _, line := range append(edges(), l[:min(len(l), 20)]...) {
			below, _ := less(l, line)
			want := len(l) - below
			if n, e := quant.Count(l, line); n != want || e != api.OK {
				t.Error(i, line, n, e, want)
			}
			share := big.NewRat(int64(want), int64(len(l)))
			if r, e := quant.Share(l, line); int64(r.P) != share.Num().Int64() || int64(r.Q) != share.Denom().Int64() || e != api.OK {
				t.Error(i, line, r, e, share)
			}
		}
		if !slices.Equal(l, given) {
			t.Error(i, "what was passed is changed")
		}
	}
}

// P19.3: nothing to count, all, or none; and more than a bag takes.
func TestCountShareEdges(t *testing.T) {
	long := slices.Repeat([]api.Score{of(1, 2), of(1, 3), of(2, 1)}, api.MaxBag)
	for i, c := range []struct {
		l     []api.Score
		line  api.Score
		count int
		share api.Ratio
	}{
		{[]api.Score{of(1, 2)}, of(1, 2), 1, api.Ratio{P: 1, Q: 1}}, {[]api.Score{of(1, 2)}, of(1, 3), 0, api.Ratio{P: 0, Q: 1}}, {[]api.Score{of(1, 2)}, of(sum, 1), 1, api.Ratio{P: 1, Q: 1}},
		{edges(), of(sum, 1), 23, api.Ratio{P: 1, Q: 1}}, {edges(), of(0, 1), 1, api.Ratio{P: 1, Q: 23}},
		{long, of(1, 2), 2 * api.MaxBag, api.Ratio{P: 2, Q: 3}}, {long, of(1, 4), 0, api.Ratio{P: 0, Q: 1}}, {long[1:], of(1, 3), api.MaxBag, api.Ratio{P: api.MaxBag, Q: 3*api.MaxBag - 1}},
	} {
		if n, e := quant.Count(c.l, c.line); n != c.count || e != api.OK {
			t.Error(i, n, e)
		}
		if r, e := quant.Share(c.l, c.line); r != c.share || e != api.OK {
			t.Error(i, r, e)
		}
	}
	for _, line := range edges() {
		for _, l := range [][]api.Score{nil, {}} {
			if n, e := quant.Count(l, line); n != 0 || e != api.OK {
				t.Error(line, n, e)
			}
			if r, e := quant.Share(l, line); r != (api.Ratio{}) || e != api.ErrZero {
				t.Error(line, r, e)
			}
		}
	}
}

// P19.3, R2: ErrScore is before ErrZero.
func TestCountShareErrors(t *testing.T) {
	refused := func(l []api.Score, line api.Score) {
		t.Helper()
		if n, e := quant.Count(l, line); n != 0 || e != api.ErrScore {
			t.Error(l, line, n, e)
		}
		if r, e := quant.Share(l, line); r != (api.Ratio{}) || e != api.ErrScore {
			t.Error(l, line, r, e)
		}
	}
	for _, s := range wrong() {
		for _, l := range [][]api.Score{nil, {}, {s}, {of(1, 2)}, edges(), wrong()} {
			refused(l, s)
		}
		for _, l := range [][]api.Score{{s}, {s, of(1, 2)}, {of(1, 2), of(3, 1), s}, append(edges(), s), {s, s}} {
			for _, line := range edges() {
				refused(l, line)
			}
		}
	}
}

// P19.4: few are beyond the line, and enough are over it.
func TestEnough(t *testing.T) {
	for i, l := range lists() {
		for _, c := range parts() {
			part, whole := c[0], c[1]
			line, e := quant.Line(l, part, whole)
			over, e2 := quant.Count(l, line)
			if e != api.OK || e2 != api.OK {
				t.Fatal(i, c, e, e2)
			}
			_, same := less(l, line)
			if (over-same)*whole > part*len(l) || over*whole < part*len(l) {
				t.Error(i, c, over, same, len(l))
			}
		}
	}
}

// P19.4
func TestOneMore(t *testing.T) {
	for _, c := range parts() {
		before, _ := quant.Index(1, c[0], c[1])
		for n := 2; n <= api.MaxBag; n++ {
			k, e := quant.Index(n, c[0], c[1])
			if e != api.OK || k != before && k != before+1 {
				t.Fatal(c, n, k, e, before)
			}
			before = k
		}
	}
}

// P1: a score is over the line if and only if the number of those that are as anomalous, or less so, is at least the rank.
func TestOverByRank(t *testing.T) {
	for i, l := range lists() {
		b := bagOf(t, l)
		for _, c := range parts() {
			line, _ := quant.Of(b, c[0], c[1])
			k, _ := quant.Index(len(l), c[0], c[1])
			for _, s := range append(edges(), l[:min(len(l), 10)]...) {
				below, same, _ := b.Rank(s)
				if is, e := quant.Over(s, line); is != (below+same >= k) || e != api.OK {
					t.Error(i, c, s, is, e, below, same, k)
				}
			}
		}
	}
}
