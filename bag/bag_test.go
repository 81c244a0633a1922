package bag_test

import (
	"cmp"
	"math/big"
	"math/rand/v2"
	"slices"
	"testing"

	"copse/api"
	"copse/bag"
)

const (
	least = -1 << 63
	most  = 1<<63 - 1
	sum   = 1 << 38
)

// of is the valid score that is p divided by q.
func of(p, q int) api.Score {
	r := big.NewRat(int64(p), int64(q))
	return api.Score{P: int(r.Num().Int64()), Q: int(r.Denom().Int64())}
}

// before is the order of a bag: the least anomalous one, which is the longest, first.
func before(a, b api.Score) int {
	// Below 2^43.
	return cmp.Compare(b.P*a.Q, a.P*b.Q)
}

func ordered(l []api.Score) []api.Score {
	return slices.SortedFunc(slices.Values(l), before)
}

// wrong is what is no valid score.
func wrong() []api.Score {
	return []api.Score{
		{}, {P: 1}, {P: 0, Q: 2}, {P: 0, Q: 16}, {P: 2, Q: 2}, {P: 6, Q: 4}, {P: 16, Q: 16}, {P: sum, Q: 2}, {P: -1, Q: 1}, {P: 1, Q: -1}, {P: -1, Q: -1}, {P: 0, Q: -1},
		{P: 1, Q: 17}, {P: 34, Q: 17}, {P: sum + 1, Q: 1}, {P: sum + 1, Q: 16}, {P: most, Q: 1}, {P: least, Q: 1}, {P: 1, Q: most}, {P: 1, Q: least}, {P: least, Q: least}, {P: least, Q: -1},
	}
}

// holds fails if b does not contain exactly the scores of want, or says otherwise by one of its methods.
func holds(t *testing.T, b *bag.Bag, want []api.Score) {
	t.Helper()
	want = ordered(want)
	if b.Len() != len(want) || !slices.Equal(b.All(), want) {
		t.Fatal(b.Len(), b.All(), want)
	}
	for i, s := range want {
		if got, e := b.Kth(i + 1); got != s || e != api.OK {
			t.Fatal(i, got, e, s)
		}
	}
	for _, k := range []int{0, -1, -len(want), len(want) + 1, len(want) + 2, len(want) + 64, 1 << 32, least, most} {
		if s, e := b.Kth(k); s != (api.Score{}) || e != api.ErrArg {
			t.Fatal(k, s, e)
		}
	}
}

// ranks fails if the rank of s in b is not that among the scores of want.
func ranks(t *testing.T, b *bag.Bag, want []api.Score, s api.Score) {
	t.Helper()
	less, same := 0, 0
	for _, o := range want {
		switch c := before(o, s); {
		case c < 0:
			less++
		case c == 0:
			same++
		}
	}
	if l, n, e := b.Rank(s); l != less || n != same || e != api.OK {
		t.Fatal(s, l, n, e, less, same)
	}
}

func filled(t *testing.T, l []api.Score) *bag.Bag {
	t.Helper()
	b := bag.New()
	for i, s := range l {
		if e := b.Add(s); e != api.OK {
			t.Fatal(i, s, e)
		}
	}
	return b
}

// edges is scores near each other, the least and the greatest ones.
func edges() []api.Score {
	return []api.Score{
		of(0, 1), of(1, 16), of(1, 15), of(1, 2), of(7, 13), of(8, 15), of(7, 15), of(15, 16), of(1, 1), of(17, 16), of(3, 2), of(2, 1), of(3, 1),
		of(1<<37, 1), of(sum-1, 16), of(sum-1, 15), of(sum-1, 14), of(sum-2, 13), of(sum-1, 2), of(sum-1, 1), of(sum, 1), of(sum, 3), of(sum, 15),
	}
}

// P18.1, P18.2
func TestEmpty(t *testing.T) {
	b := bag.New()
	if b == nil {
		t.Fatal("no bag")
	}
	holds(t, b, nil)
	for _, s := range edges() {
		ranks(t, b, nil, s)
		if e := b.Drop(s); e != api.ErrNone {
			t.Error(s, e)
		}
	}
	holds(t, b, nil)
}

// P18.2: the document's example.
func TestExample(t *testing.T) {
	b := filled(t, []api.Score{{P: 1, Q: 2}, {P: 3, Q: 1}, {P: 1, Q: 2}})
	if s, e := b.Kth(1); s != (api.Score{P: 3, Q: 1}) || e != api.OK {
		t.Error(s, e)
	}
	if less, same, e := b.Rank(api.Score{P: 1, Q: 2}); less != 1 || same != 2 || e != api.OK {
		t.Error(less, same, e)
	}
}

// P18.1, P18.2
func TestEdges(t *testing.T) {
	l := edges()
	b := bag.New()
	for i, s := range l {
		if e := b.Add(s); e != api.OK {
			t.Error(s, e)
		}
		holds(t, b, l[:i+1])
		for _, s := range l {
			ranks(t, b, l[:i+1], s)
		}
	}
	for i, s := range l {
		if e := b.Drop(s); e != api.OK {
			t.Error(s, e)
		}
		if e := b.Drop(s); e != api.ErrNone {
			t.Error(s, e)
		}
		holds(t, b, l[i+1:])
		for _, s := range l {
			ranks(t, b, l[i+1:], s)
		}
	}
}

// P18.1, P18.2, R2: nothing changes by an error.
func TestErrScore(t *testing.T) {
	for _, l := range [][]api.Score{nil, edges(), slices.Repeat(edges(), 9)} {
		b := filled(t, l)
		for _, s := range wrong() {
			if e := b.Add(s); e != api.ErrScore {
				t.Error(s, e)
			}
			if e := b.Drop(s); e != api.ErrScore {
				t.Error(s, e)
			}
			if less, same, e := b.Rank(s); less != 0 || same != 0 || e != api.ErrScore {
				t.Error(s, less, same, e)
			}
		}
		holds(t, b, l)
	}
}

// P18.1: up to the limit and beyond it, with scores that are all equal, or not.
func TestErrLong(t *testing.T) {
	for _, kinds := range []int{1, 7, 5000} {
		var l []api.Score
		for i := range api.MaxBag {
			l = append(l, of(i*1597%kinds, 1+i%kinds%16))
		}
		b := filled(t, l)
		holds(t, b, l)
		for _, s := range []api.Score{l[0], l[9], of(sum, 1), of(0, 1), of(1, 2)} {
			if e := b.Add(s); e != api.ErrLong {
				t.Error(kinds, s, e)
			}
		}
		for _, s := range wrong() {
			if e := b.Add(s); e != api.ErrScore {
				t.Error(kinds, s, e)
			}
		}
		holds(t, b, l)
		if e := b.Drop(l[5]); e != api.OK {
			t.Error(e)
		}
		if e := b.Add(of(99, 8)); e != api.OK {
			t.Error(e)
		}
		if e := b.Add(of(99, 8)); e != api.ErrLong {
			t.Error(e)
		}
		l[5] = of(99, 8)
		holds(t, b, l)
		for _, s := range l[:40] {
			ranks(t, b, l, s)
		}
	}
}

// P18.1: only what is there is removed, and once.
func TestDrop(t *testing.T) {
	for _, n := range []int{1, 2, 3, 63, 64, 65, 66, 100, 127, 128, 129, 200, 257} {
		b := bag.New()
		for range n {
			b.Add(of(5, 2))
		}
		for _, s := range []api.Score{of(5, 1), of(2, 1), of(2, 5), of(7, 3), of(0, 1), of(sum, 1)} {
			if e := b.Drop(s); e != api.ErrNone {
				t.Error(n, s, e)
			}
		}
		for left := n; left > 0; left-- {
			holds(t, b, slices.Repeat([]api.Score{of(5, 2)}, left))
			if e := b.Drop(of(5, 2)); e != api.OK {
				t.Error(n, left, e)
			}
		}
		holds(t, b, nil)
		if e := b.Drop(of(5, 2)); e != api.ErrNone {
			t.Error(n, e)
		}
		if e := b.Add(of(5, 3)); e != api.OK {
			t.Error(n, e)
		}
		holds(t, b, []api.Score{of(5, 3)})
	}
}

// orders is the numbers below n, in several orders.
func orders(n int) [][]int {
	var up, down, inside []int
	for i := range n {
		up, down, inside = append(up, i), append(down, n-1-i), slices.Insert(inside, i/2, i)
	}
	random := rand.New(rand.NewPCG(18, uint64(n)))
	return [][]int{up, down, inside, random.Perm(n), random.Perm(n)}
}

// P18.1, P18.2, P18.3: the order in which scores come and go does not matter.
func TestOrders(t *testing.T) {
	for _, n := range []int{1, 2, 5, 63, 64, 65, 96, 97, 128, 129, 400} {
		for _, in := range orders(n) {
			for _, out := range orders(n) {
				b := bag.New()
				left := map[api.Score]int{}
				for _, i := range in {
					s := of(i/3, 1+i%2)
					left[s]++
					if e := b.Add(s); e != api.OK {
						t.Fatal(n, i, e)
					}
				}
				check(t, b, left)
				for k, i := range out {
					s := of(i/3, 1+i%2)
					left[s]--
					if e := b.Drop(s); e != api.OK {
						t.Fatal(n, k, e)
					}
					if k%(n/5+1) == 0 || n-k < 4 {
						check(t, b, left)
					}
				}
			}
		}
	}
}

// check is holds and ranks, for scores as often as they are counted.
func check(t *testing.T, b *bag.Bag, counts map[api.Score]int) {
	t.Helper()
	var l []api.Score
	for s, n := range counts {
		l = append(l, slices.Repeat([]api.Score{s}, n)...)
	}
	holds(t, b, l)
	for i := range 7 {
		ranks(t, b, l, of(i*i*i, 1+i%2))
	}
}

// P18.1, P18.2, P18.3: at random, against a list, few scores or many, growing and shrinking.
func TestRandom(t *testing.T) {
	random := rand.New(rand.NewPCG(18, 1))
	gone, absent, full := 0, 0, 0
	for round := range 40 {
		b := bag.New()
		var want []api.Score
		many := 1 << random.IntN(12)
		draw := func() api.Score { return of(random.IntN(many), 1+random.IntN(min(many, 16))) }
		for i := range 1500 {
			// By turns more come than go, and the other way round.
			if random.IntN(8) < 2+i/300%2*4 {
				s := draw()
				if len(want) > 0 && random.IntN(4) > 0 {
					s = want[random.IntN(len(want))]
				}
				index := slices.Index(want, s)
				e := b.Drop(s)
				if (e == api.OK) != (index >= 0) || index < 0 && e != api.ErrNone {
					t.Fatal(round, i, s, e)
				}
				if index >= 0 {
					want = slices.Delete(want, index, index+1)
					gone++
				} else {
					absent++
				}
			} else {
				s := draw()
				want = append(want, s)
				if e := b.Add(s); e != api.OK {
					t.Fatal(round, i, s, e)
				}
			}
			full = max(full, len(want))
			if b.Len() != len(want) {
				t.Fatal(round, i, b.Len(), len(want))
			}
			ranks(t, b, want, draw())
			if i%97 == 0 {
				holds(t, b, want)
			}
		}
		holds(t, b, want)
	}
	if gone < 5000 || absent < 1000 || full < 300 {
		t.Error("seldom tested", gone, absent, full)
	}
}

// P18.3: adding and removing has no effect in total.
func TestBack(t *testing.T) {
	random := rand.New(rand.NewPCG(18, 2))
	for n := range 200 {
		var l []api.Score
		for range n {
			l = append(l, of(random.IntN(50), 1+random.IntN(4)))
		}
		b := filled(t, l)
		for _, s := range []api.Score{of(0, 1), of(sum, 1), of(25, 1), of(25, 3), of(7, 2)} {
			if e := b.Add(s); e != api.OK {
				t.Error(n, s, e)
			}
			holds(t, b, append([]api.Score{s}, l...))
			if e := b.Drop(s); e != api.OK {
				t.Error(n, s, e)
			}
			holds(t, b, l)
			ranks(t, b, l, s)
		}
	}
}

// P18.2
func TestNil(t *testing.T) {
	var b *bag.Bag
	for _, s := range append(wrong(), edges()...) {
		if e := b.Add(s); e != api.ErrShut {
			t.Error(s, e)
		}
		if e := b.Drop(s); e != api.ErrShut {
			t.Error(s, e)
		}
		if less, same, e := b.Rank(s); less != 0 || same != 0 || e != api.ErrShut {
			t.Error(s, less, same, e)
		}
	}
	for _, k := range []int{0, 1, -1, 5000, least, most} {
		if s, e := b.Kth(k); s != (api.Score{}) || e != api.ErrShut {
			t.Error(k, s, e)
		}
	}
	if b.Len() != 0 || len(b.All()) != 0 {
		t.Error(b.Len(), b.All())
	}
}

// R3: what is returned is new memory.
func TestMemory(t *testing.T) {
	for _, n := range []int{1, 5, 64, 65, 150} {
		var l []api.Score
		for i := range n {
			l = append(l, of(i*7%50, 1+i%3))
		}
		b := filled(t, l)
		got := b.All()
		whole := got[:cap(got)]
		for i := range whole {
			whole[i] = api.Score{P: 77, Q: 1}
		}
		holds(t, b, l)
		// An answer stays as it is when scores come and go.
		got = b.All()
		b.Add(of(sum, 1))
		for _, s := range l {
			b.Drop(s)
		}
		if !slices.Equal(got, ordered(l)) {
			t.Error(n, got)
		}
		holds(t, b, []api.Score{of(sum, 1)})
	}
}

// R4: two bags have nothing to do with each other.
func TestTwo(t *testing.T) {
	a, b := bag.New(), bag.New()
	var l []api.Score
	for i := range 100 {
		l = append(l, of(i, 1))
		a.Add(of(i, 1))
		b.Add(of(i, 2))
		b.Drop(of(i, 2))
	}
	holds(t, a, l)
	holds(t, b, nil)
}
