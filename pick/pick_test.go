package pick_test

import (
	"math/rand/v2"
	"slices"
	"testing"

	"copse/api"
	"copse/draw"
	"copse/pick"
)

const (
	top   = 1<<64 - 1
	least = -1 << 63
	most  = 1<<63 - 1
	heavy = 1 << 40
)

// upTo is the list of the numbers from 0 to n - 1.
func upTo(n int) []int {
	l := make([]int, n)
	for i := range l {
		l[i] = i
	}
	return l
}

// played is what picks pick of n, on a whole list.
func played(n int, picks []int) []int {
	l := upTo(n)
	for i, p := range picks {
		l[i], l[i+p] = l[i+p], l[i]
	}
	return l[:len(picks)]
}

// lists calls f with each list of k numbers, of which the one at i is below size(i).
func lists(k int, size func(i int) int, f func([]int)) {
	l := make([]int, k)
	var fill func(i int)
	fill = func(i int) {
		if i == k {
			f(slices.Clone(l))
			return
		}
		for l[i] = 0; l[i] < size(i); l[i]++ {
			fill(i + 1)
		}
	}
	fill(0)
}

// differ reports whether l has no number twice.
func differ(l []int) bool {
	s := slices.Sorted(slices.Values(l))
	return len(slices.Compact(s)) == len(l)
}

// some are n draws, of which some do not count for most bounds.
func some(random *rand.Rand, n int) []uint64 {
	l := make([]uint64, n)
	for i := range l {
		l[i] = []uint64{0, top, top - 1, 4, uint64(random.IntN(20)), random.Uint64()}[random.IntN(6)]
	}
	return l
}

// sampled is what Sample has to answer where its arguments may be asked.
func sampled(l []uint64, at, n, k, tries int) ([]int, int, api.Errno) {
	var picks []int
	for i := range k {
		p, next, e := draw.Bound(l, at, uint64(n-i), tries)
		if e != api.OK {
			return nil, 0, e
		}
		picks, at = append(picks, int(p)), next
	}
	return played(n, picks), at, api.OK
}

// P7.1
func TestSample(t *testing.T) {
	for i, c := range []struct {
		l               []uint64
		at, n, k, tries int
		want            []int
		next            int
	}{
		{[]uint64{9, 3, 0, 0}, 1, 5, 3, 1, []int{3, 1, 2}, 4}, {[]uint64{2, 0}, 0, 4, 2, 1, []int{2, 1}, 2}, {[]uint64{2, 2}, 0, 4, 2, 1, []int{2, 3}, 2}, {[]uint64{2, 1, 1}, 0, 4, 3, 1, []int{2, 0, 3}, 3}, {[]uint64{3, 2, 1, 0}, 0, 4, 4, 1, []int{3, 0, 1, 2}, 4},
		{[]uint64{7}, 0, 1, 1, 1, []int{0}, 1}, {[]uint64{7, 8}, 1, 1, 1, 1, []int{0}, 2}, {[]uint64{top, top, 1, 8}, 0, 3, 1, 3, []int{1}, 3}, {[]uint64{1, top, 1}, 0, 4, 2, 2, []int{1, 2}, 3}, {[]uint64{255}, 0, 256, 1, 64, []int{255}, 1}, {[]uint64{256}, 0, 256, 1, 64, []int{0}, 1},
		{nil, 0, 0, 0, 1, nil, 0}, {nil, 7, 0, 0, 1, nil, 7}, {nil, 7, 256, 0, 64, nil, 7}, {[]uint64{1}, most, 5, 0, 1, nil, most}, {[]uint64{top}, 0, 3, 0, 1, nil, 0},
	} {
		if got, next, e := pick.Sample(c.l, c.at, c.n, c.k, c.tries); !slices.Equal(got, c.want) || next != c.next || e != api.OK {
			t.Error(i, got, next, e)
		}
	}
}

// P7.1
func TestSampleErrors(t *testing.T) {
	l := []uint64{1, 1, 1, top, 1}
	for i, c := range []struct {
		at, n, k, tries int
		want            api.Errno
	}{
		{0, -1, 0, 1, api.ErrArg}, {0, -1, -1, 1, api.ErrArg}, {0, least, 0, 1, api.ErrArg}, {0, 257, 0, 1, api.ErrArg}, {0, 257, 1, 1, api.ErrArg}, {0, most, 1, 1, api.ErrArg},
		{0, 3, -1, 1, api.ErrArg}, {0, 3, least, 1, api.ErrArg}, {0, 3, 4, 1, api.ErrArg}, {0, 0, 1, 1, api.ErrArg}, {0, 3, most, 1, api.ErrArg}, {0, 256, 257, 1, api.ErrArg},
		{-1, 3, 1, 1, api.ErrArg}, {-1, 3, 0, 1, api.ErrArg}, {least, 3, 1, 1, api.ErrArg}, {0, 3, 1, 0, api.ErrArg}, {0, 3, 0, 0, api.ErrArg}, {0, 3, 1, -1, api.ErrArg}, {0, 3, 1, 65, api.ErrArg}, {0, 3, 0, 65, api.ErrArg}, {0, 3, 1, most, api.ErrArg}, {9, 3, 4, 1, api.ErrArg},
		{5, 3, 1, 1, api.ErrDraws}, {most, 3, 1, 1, api.ErrDraws}, {4, 3, 2, 1, api.ErrDraws}, {4, 2, 2, 1, api.ErrDraws}, {3, 5, 2, 1, api.ErrTries}, {0, 6, 4, 1, api.ErrTries}, {3, 3, 2, 64, api.ErrDraws}, {0, 256, 256, 64, api.ErrDraws},
	} {
		if got, next, e := pick.Sample(l, c.at, c.n, c.k, c.tries); len(got) != 0 || next != 0 || e != c.want {
			t.Error(i, got, next, e)
		}
	}
	if got, next, e := pick.Sample(l[:2], 0, 4, 3, 1); len(got) != 0 || next != 0 || e != api.ErrDraws {
		t.Error("what lies in the spare room was drawn:", got, next, e)
	}
}

// P7.1, R3
func TestSampleOfMany(t *testing.T) {
	random := rand.New(rand.NewPCG(7, 1))
	for range 4000 {
		n := random.IntN(1 + []int{3, 12, 64, 256}[random.IntN(4)])
		k := random.IntN(n + 1)
		l := some(random, k+random.IntN(k+3))
		at, tries := random.IntN(3), 1+random.IntN(5)
		given := slices.Clone(l)
		got, next, e := pick.Sample(l, at, n, k, tries)
		want, after, wrong := sampled(l, at, n, k, tries)
		if !slices.Equal(got, want) || next != after || e != wrong {
			t.Fatal(l, at, n, k, tries, got, next, e)
		}
		if !slices.Equal(l, given) {
			t.Fatal("the draws were changed")
		}
		if e == api.OK && (len(got) != k || !differ(got)) {
			t.Fatal(got)
		}
	}
}

// P7.1
func TestPerm(t *testing.T) {
	if got, next, e := pick.Perm([]uint64{9, 2, 1, 0, 5}, 1, 3, 1); !slices.Equal(got, []int{2, 0, 1}) || next != 4 || e != api.OK {
		t.Error(got, next, e)
	}
	if got, next, e := pick.Perm(nil, 7, 0, 64); len(got) != 0 || next != 7 || e != api.OK {
		t.Error(got, next, e)
	}
	l := make([]uint64, 300)
	for i, c := range []struct {
		at, n, tries int
		want         api.Errno
	}{
		{0, -1, 1, api.ErrArg}, {0, 257, 1, api.ErrArg}, {0, least, 1, api.ErrArg}, {0, most, 1, api.ErrArg}, {-1, 3, 1, api.ErrArg}, {-1, 0, 1, api.ErrArg}, {0, 3, 0, api.ErrArg}, {0, 0, 65, api.ErrArg},
		{299, 2, 1, api.ErrDraws}, {300, 1, 1, api.ErrDraws}, {45, 256, 1, api.ErrDraws}, {44, 256, 1, api.OK},
	} {
		got, next, e := pick.Perm(l, c.at, c.n, c.tries)
		if e != c.want || e != api.OK && (len(got) != 0 || next != 0) || e == api.OK && (!slices.Equal(got, upTo(256)) || next != 300) {
			t.Error(i, got, next, e)
		}
	}
	random := rand.New(rand.NewPCG(7, 2))
	for range 1000 {
		n := random.IntN(1 + []int{4, 256}[random.IntN(2)])
		l := some(random, n+random.IntN(n+3))
		got, next, e := pick.Perm(l, 1, n, 3)
		want, after, wrong := sampled(l, 1, n, n, 3)
		if !slices.Equal(got, want) || next != after || e != wrong {
			t.Fatal(l, n, got, next, e)
		}
	}
}

// P7.2
func TestPlay(t *testing.T) {
	for i, c := range []struct {
		n           int
		picks, want []int
		ok          bool
	}{
		{4, []int{2, 0}, []int{2, 1}, true}, {4, []int{3, 2, 1, 0}, []int{3, 0, 1, 2}, true}, {4, nil, nil, true}, {0, nil, nil, true}, {0, []int{}, nil, true}, {256, []int{255, 254}, []int{255, 0}, true}, {1, []int{0}, []int{0}, true}, {3, []int{1, 1, 0}, []int{1, 2, 0}, true},
		{-1, nil, nil, false}, {-1, []int{0}, nil, false}, {257, nil, nil, false}, {257, []int{0}, nil, false}, {least, nil, nil, false}, {most, nil, nil, false}, {0, []int{0}, nil, false}, {2, []int{0, 0, 0}, nil, false}, {3, make([]int, 300), nil, false},
		{4, []int{4}, nil, false}, {4, []int{-1}, nil, false}, {4, []int{0, 3}, nil, false}, {4, []int{0, 0, 0, 1}, nil, false}, {4, []int{0, -1}, nil, false}, {4, []int{0, most}, nil, false}, {4, []int{least}, nil, false}, {4, []int{0, 0, 2, 0}, nil, false},
	} {
		if got, ok := pick.Play(c.n, c.picks); !slices.Equal(got, c.want) || ok != c.ok {
			t.Error(i, got, ok)
		}
	}
}

// P7.2
func TestBack(t *testing.T) {
	for i, c := range []struct {
		n       int
		s, want []int
		ok      bool
	}{
		{4, []int{2, 1}, []int{2, 0}, true}, {4, []int{3, 0, 1, 2}, []int{3, 2, 1, 0}, true}, {4, nil, nil, true}, {0, nil, nil, true}, {0, []int{}, nil, true}, {256, []int{255, 0}, []int{255, 254}, true}, {1, []int{0}, []int{0}, true}, {3, []int{1, 2, 0}, []int{1, 1, 0}, true},
		{-1, nil, nil, false}, {-1, []int{0}, nil, false}, {257, nil, nil, false}, {257, []int{0}, nil, false}, {least, nil, nil, false}, {most, nil, nil, false}, {0, []int{0}, nil, false}, {3, make([]int, 300), nil, false},
		{3, []int{0, 3}, nil, false}, {3, []int{3}, nil, false}, {3, []int{-1}, nil, false}, {3, []int{1, 1}, nil, false}, {3, []int{0, 1, 0}, nil, false}, {3, []int{0, 1, 2, 0}, nil, false}, {3, []int{2, 1, 0, 3}, nil, false}, {3, []int{least}, nil, false}, {3, []int{0, most}, nil, false},
	} {
		if got, ok := pick.Back(c.n, c.s); !slices.Equal(got, c.want) || ok != c.ok {
			t.Error(i, got, ok)
		}
	}
}

// P7.2, P7.5: all lists of picks, and all lists of different numbers
func TestEachListHasItsPicks(t *testing.T) {
	for n := range 7 {
		for k := range n + 1 {
			picked := map[[7]int]int{}
			lists(k, func(i int) int { return n - i }, func(picks []int) {
				s, ok := pick.Play(n, picks)
				if !ok || !slices.Equal(s, played(n, picks)) {
					t.Fatal(n, picks, s, ok)
				}
				if back, ok := pick.Back(n, s); !ok || !slices.Equal(back, picks) {
					t.Fatal(n, picks, s, back, ok)
				}
				var key [7]int
				copy(key[:], s)
				picked[key]++
			})
			lists(k, func(int) int { return n }, func(s []int) {
				picks, ok := pick.Back(n, s)
				if ok != differ(s) {
					t.Fatal(n, s, ok)
				}
				if !ok {
					return
				}
				if again, ok := pick.Play(n, picks); !ok || !slices.Equal(again, s) {
					t.Fatal(n, s, picks, again, ok)
				}
				var key [7]int
				if copy(key[:], s); picked[key] != 1 {
					t.Fatal(n, s, "is picked by", picked[key], "lists")
				}
			})
		}
	}
}

// P7.2, P7.5, R3: long lists
func TestPlayAndBackOfMany(t *testing.T) {
	random := rand.New(rand.NewPCG(7, 3))
	for range 1000 {
		n := random.IntN(api.MaxWindow + 1)
		k := random.IntN(n + 1)
		picks := make([]int, k)
		for i := range picks {
			picks[i] = random.IntN(n - i)
		}
		given := slices.Clone(picks)
		s, ok := pick.Play(n, picks)
		if !ok || !slices.Equal(s, played(n, picks)) {
			t.Fatal(n, picks, s, ok)
		}
		listed := slices.Clone(s)
		if back, ok := pick.Back(n, s); !ok || !slices.Equal(back, picks) {
			t.Fatal(n, s, back, ok)
		}
		if !slices.Equal(picks, given) || !slices.Equal(s, listed) {
			t.Fatal("what was handed in was changed")
		}
	}
}

// coefs is what Coefs has to answer where its arguments may be asked.
func coefs(l []uint64, at, dim, tries int) ([]int, int, api.Errno) {
	for range tries {
		c := make([]int, dim)
		for i := range c {
			n, next, e := draw.Range(l, at, -4, 4, tries)
			if e != api.OK {
				return nil, 0, e
			}
			c[i], at = n, next
		}
		if slices.ContainsFunc(c, func(n int) bool { return n != 0 }) {
			return c, at, api.OK
		}
	}
	return nil, 0, api.ErrTries
}

// P7.3
func TestCoefs(t *testing.T) {
	for i, c := range []struct {
		l              []uint64
		at, dim, tries int
		want           []int
		next           int
	}{
		{[]uint64{4, 4, 4, 4, 0, 8}, 0, 2, 3, []int{-4, 4}, 6}, {[]uint64{4, 4, 4, 4, 0, 8}, 3, 3, 1, []int{0, -4, 4}, 6}, {[]uint64{4, 4, 4, 5, 9}, 0, 2, 2, []int{0, 1}, 4}, {[]uint64{4, 4, 3, 4, 9}, 0, 2, 2, []int{-1, 0}, 4}, {[]uint64{13, 9, 17}, 1, 1, 1, []int{-4}, 2},
		{[]uint64{0, 1, 2, 3, 4, 5, 6, 7}, 0, 8, 1, []int{-4, -3, -2, -1, 0, 1, 2, 3}, 8}, {[]uint64{top, 4, top, 8}, 0, 1, 2, []int{4}, 4},
	} {
		if got, next, e := pick.Coefs(c.l, c.at, c.dim, c.tries); !slices.Equal(got, c.want) || next != c.next || e != api.OK {
			t.Error(i, got, next, e)
		}
	}
}

// P7.3
func TestCoefsErrors(t *testing.T) {
	l := []uint64{4, 4, 4, 4, 0, top, top, 0}
	for i, c := range []struct {
		at, dim, tries int
		want           api.Errno
	}{
		{0, 0, 1, api.ErrArg}, {0, -1, 1, api.ErrArg}, {0, 9, 1, api.ErrArg}, {0, least, 1, api.ErrArg}, {0, most, 1, api.ErrArg}, {-1, 2, 1, api.ErrArg}, {least, 2, 1, api.ErrArg}, {0, 2, 0, api.ErrArg}, {0, 2, -1, api.ErrArg}, {0, 2, 65, api.ErrArg}, {0, 2, most, api.ErrArg}, {99, 0, 1, api.ErrArg},
		{8, 1, 1, api.ErrDraws}, {99, 1, 1, api.ErrDraws}, {most, 8, 64, api.ErrDraws}, {7, 2, 1, api.ErrDraws}, {4, 4, 64, api.ErrDraws}, {0, 8, 3, api.ErrDraws},
		{0, 1, 4, api.ErrTries}, {0, 2, 2, api.ErrTries}, {0, 4, 1, api.ErrTries}, {3, 1, 1, api.ErrTries}, {4, 2, 1, api.ErrTries}, {4, 2, 2, api.ErrTries}, {5, 1, 2, api.ErrTries},
	} {
		if got, next, e := pick.Coefs(l, c.at, c.dim, c.tries); len(got) != 0 || next != 0 || e != c.want {
			t.Error(i, got, next, e)
		}
	}
	if _, _, e := pick.Coefs([]uint64{4, 4}, 0, 1, 2); e != api.ErrTries {
		t.Error("all 0, and behind that the draws end:", e)
	}
	if _, _, e := pick.Coefs([]uint64{4, 4}, 0, 1, 3); e != api.ErrDraws {
		t.Error("the draws end before the last try:", e)
	}
	zeros := slices.Repeat([]uint64{4}, api.MaxTries*api.MaxDim)
	if _, _, e := pick.Coefs(zeros, 0, api.MaxDim, api.MaxTries); e != api.ErrTries {
		t.Error(e)
	}
	zeros[len(zeros)-1] = 5
	if got, next, e := pick.Coefs(zeros, 0, api.MaxDim, api.MaxTries); !slices.Equal(got, []int{0, 0, 0, 0, 0, 0, 0, 1}) || next != len(zeros) || e != api.OK {
		t.Error(got, next, e)
	}
}

// P7.3, R3
func TestCoefsOfMany(t *testing.T) {
	random := rand.New(rand.NewPCG(7, 4))
	for range 4000 {
		l := some(random, random.IntN(20))
		for i := range l {
			if random.IntN(2) == 0 {
				l[i] = 4
			}
		}
		given := slices.Clone(l)
		at, dim, tries := random.IntN(3), 1+random.IntN(1+random.IntN(api.MaxDim)), 1+random.IntN(4)
		got, next, e := pick.Coefs(l, at, dim, tries)
		want, after, wrong := coefs(l, at, dim, tries)
		if !slices.Equal(got, want) || next != after || e != wrong || !slices.Equal(l, given) {
			t.Fatal(given, at, dim, tries, got, next, e)
		}
	}
}

// P7.4
func TestWeigh(t *testing.T) {
	for i, c := range []struct {
		l       []uint64
		at      int
		weights []int
		tries   int
		want    int
		next    int
	}{
		{[]uint64{3}, 0, []int{0, 3, 0, 1}, 1, 3, 1}, {[]uint64{2}, 0, []int{0, 3, 0, 1}, 1, 1, 1}, {[]uint64{0}, 0, []int{0, 3, 0, 1}, 1, 1, 1}, {[]uint64{4}, 0, []int{0, 3, 0, 1}, 1, 1, 1}, {[]uint64{9, 8}, 1, []int{5}, 1, 0, 2}, {[]uint64{9, 8}, 0, []int{1}, 64, 0, 1}, {[]uint64{0}, 0, []int{2, 0}, 1, 0, 1}, {[]uint64{1}, 0, []int{1, 0, 0, 1, 0}, 1, 3, 1},
		{[]uint64{top, top, 5}, 0, []int{1, 1, 1}, 3, 2, 3}, {[]uint64{heavy - 1}, 0, []int{heavy, heavy}, 1, 0, 1}, {[]uint64{heavy}, 0, []int{heavy, heavy}, 1, 1, 1}, {[]uint64{2*heavy - 1}, 0, []int{heavy, heavy}, 1, 1, 1}, {[]uint64{256*heavy - 1}, 0, slices.Repeat([]int{heavy}, 256), 1, 255, 1}, {[]uint64{255*heavy - 1}, 0, slices.Repeat([]int{heavy}, 256), 1, 254, 1},
	} {
		if got, next, e := pick.Weigh(c.l, c.at, c.weights, c.tries); got != c.want || next != c.next || e != api.OK {
			t.Error(i, got, next, e)
		}
	}
}

// P7.4
func TestWeighErrors(t *testing.T) {
	l := []uint64{1, top}
	for i, c := range []struct {
		at      int
		weights []int
		tries   int
		want    api.Errno
	}{
		{0, nil, 1, api.ErrArg}, {0, []int{}, 1, api.ErrArg}, {0, []int{0}, 1, api.ErrArg}, {0, []int{0, 0}, 1, api.ErrArg}, {0, make([]int, 256), 1, api.ErrArg}, {0, slices.Repeat([]int{1}, 257), 1, api.ErrArg},
		{0, []int{-1}, 1, api.ErrArg}, {0, []int{3, -1}, 1, api.ErrArg}, {0, []int{-1, 3}, 1, api.ErrArg}, {0, []int{least, 1}, 1, api.ErrArg}, {0, []int{heavy + 1}, 1, api.ErrArg}, {0, []int{1, heavy + 1}, 1, api.ErrArg}, {0, []int{most, most, 2}, 1, api.ErrArg},
		{-1, []int{1}, 1, api.ErrArg}, {least, []int{1}, 1, api.ErrArg}, {0, []int{1}, 0, api.ErrArg}, {0, []int{1}, -1, api.ErrArg}, {0, []int{1}, 65, api.ErrArg}, {0, []int{1}, most, api.ErrArg}, {9, nil, 1, api.ErrArg},
		{2, []int{1}, 1, api.ErrDraws}, {9, []int{1}, 1, api.ErrDraws}, {most, []int{1}, 1, api.ErrDraws}, {1, []int{3}, 2, api.ErrDraws}, {1, []int{3}, 1, api.ErrTries}, {1, []int{1, 2}, 1, api.ErrTries},
	} {
		if got, next, e := pick.Weigh(l, c.at, c.weights, c.tries); got != 0 || next != 0 || e != c.want {
			t.Error(i, got, next, e)
		}
	}
}

// P7.4: each index comes up as often as its weight is
func TestWeighIsFair(t *testing.T) {
	random := rand.New(rand.NewPCG(7, 5))
	for range 300 {
		weights, sum := make([]int, 1+random.IntN(8)), 0
		for i := range weights {
			weights[i] = random.IntN(4)
			sum += weights[i]
		}
		given, times := slices.Clone(weights), make([]int, len(weights))
		for d := range sum {
			i, next, e := pick.Weigh([]uint64{uint64(d)}, 0, weights, 1)
			if next != 1 || e != api.OK {
				t.Fatal(weights, d, next, e)
			}
			times[i]++
		}
		if !slices.Equal(times, weights) || !slices.Equal(weights, given) {
			t.Fatal(given, times)
		}
	}
}
