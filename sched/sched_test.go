package sched_test

import (
	"math/rand/v2"
	"slices"
	"testing"

	"copse/api"
	"copse/sched"
)

const (
	least = -1 << 63
	most  = 1<<63 - 1
	count = 1 << 40
)

// plain is a valid configuration.
func plain() api.Conf {
	return api.Conf{Dim: 2, Window: 16, Trees: 3, Sample: 8, Every: 5, Kind: api.KindPlane, Part: 1, Whole: 10, Tries: 4, Keep: 3, Notes: 9}
}

// conf is a valid configuration with these turns and trees.
func conf(sample, every, trees int) api.Conf {
	c := plain()
	c.Window, c.Sample, c.Every, c.Trees = 256, sample, every, trees
	return c
}

// confs is valid configurations of all sorts of turns.
func confs() []api.Conf {
	var l []api.Conf
	for _, sample := range []int{2, 3, 7, 8, 9, 63, 64} {
		for _, every := range []int{1, 2, 3, 5, 7, 8, 9, 16, 63, 64, 65, 128, 255, 256} {
			l = append(l, conf(sample, every, 1+(sample*every)%16))
		}
	}
	return l
}

// changes is ways to make a valid configuration one that is not.
func changes() []func(c *api.Conf, n int) {
	return []func(c *api.Conf, n int){
		func(c *api.Conf, n int) { c.Dim = n },
		func(c *api.Conf, n int) { c.Window = n },
		func(c *api.Conf, n int) { c.Trees = n },
		func(c *api.Conf, n int) { c.Sample = n },
		func(c *api.Conf, n int) { c.Every = n },
		func(c *api.Conf, n int) { c.Kind = n },
		func(c *api.Conf, n int) { c.Whole = n },
		func(c *api.Conf, n int) { c.Part = n },
		func(c *api.Conf, n int) { c.Tries = n },
		func(c *api.Conf, n int) { c.Keep = n },
		func(c *api.Conf, n int) { c.Notes = n },
	}
}

// wrong is configurations that are not valid.
func wrong() []api.Conf {
	l := []api.Conf{{}}
	for _, change := range changes() {
		for _, n := range []int{0, -1, 1001, least, most} {
			c := plain()
			change(&c, n)
			l = append(l, c)
		}
	}
	return l
}

// P20.1: each number at its limits, the others being as they may be.
func TestRight(t *testing.T) {
	for i, ends := range [][2]int{{1, 8}, {8, 256}, {1, 16}, {2, 16}, {1, 256}, {1, 2}, {2, 1000}, {1, 9}, {1, 64}, {1, 64}, {1, 256}} {
		for _, n := range []int{least, least + 1, -1 << 32, -9, -1, 0, 1, 2, 3, 7, 8, 9, 10, 15, 16, 17, 63, 64, 65, 255, 256, 257, 999, 1000, 1001, 1 << 32, 1<<32 + 2, most - 1, most} {
			c := plain()
			changes()[i](&c, n)
			if got, want := sched.Right(c), ends[0] <= n && n <= ends[1]; got != want {
				t.Error(i, n, got, c)
			}
		}
	}
	if sched.Right(api.Conf{}) {
		t.Error("nothing")
	}
}

// P20.1: Sample goes by Window, and Part by Whole.
func TestRightTogether(t *testing.T) {
	for window := range 260 {
		for sample := range 70 {
			c := plain()
			c.Window, c.Sample = window, sample
			if got, want := sched.Right(c), window >= 2 && window <= 256 && sample >= 2 && sample <= 64 && sample <= window; got != want {
				t.Error(window, sample, got)
			}
		}
	}
	for whole := -2; whole <= 1003; whole += 1 + max(0, whole)%3 {
		for part := -2; part <= whole+2; part++ {
			c := plain()
			c.Part, c.Whole = part, whole
			if got, want := sched.Right(c), whole >= 2 && whole <= 1000 && part >= 1 && part < whole; got != want {
				t.Error(part, whole, got)
			}
		}
	}
	for _, part := range []int{least, -1, 0, 1, 2, most - 1, most} {
		for _, whole := range []int{least, least + 1, -1, 0, 1, most} {
			c := plain()
			c.Part, c.Whole = part, whole
			if sched.Right(c) {
				t.Error(part, whole)
			}
		}
	}
}

// P20.1: all numbers at their least, and at their greatest.
func TestRightEnds(t *testing.T) {
	for _, c := range []api.Conf{
		{Dim: 1, Window: 2, Trees: 1, Sample: 2, Every: 1, Kind: 1, Part: 1, Whole: 2, Tries: 1, Keep: 1, Notes: 1},
		{Dim: 8, Window: 256, Trees: 16, Sample: 64, Every: 256, Kind: 2, Part: 999, Whole: 1000, Tries: 64, Keep: 64, Notes: 256},
	} {
		if !sched.Right(c) {
			t.Error(c)
		}
	}
	for _, c := range confs() {
		if !sched.Right(c) {
			t.Error(c)
		}
	}
	for _, c := range wrong() {
		if sched.Right(c) {
			t.Error(c)
		}
	}
}

// isTurn is by the words.
func isTurn(c api.Conf, n int) bool {
	return n >= c.Sample && n%c.Every == 0
}

// place is by the words: the index at which a tree is grown.
func place(c api.Conf, births []int) int {
	if len(births) < c.Trees {
		return len(births)
	}
	return slices.Index(births, slices.Min(births))
}

// P20.1, R3
func TestDue(t *testing.T) {
	random := rand.New(rand.NewPCG(20, 1))
	yes, no := 0, 0
	for _, c := range confs() {
		for n := -300; n < 700; n++ {
			births := make([]int, random.IntN(c.Trees+1))
			for i := range births {
				births[i] = random.IntN(1+max(0, n)/10) - random.IntN(2)
			}
			given := slices.Clone(births)
			want := 0
			if isTurn(c, n) {
				want = place(c, births)
				yes++
			} else {
				no++
			}
			if at, ok := sched.Due(c, n, births); at != want || ok != isTurn(c, n) {
				t.Fatal(c, n, births, at, ok)
			}
			if !slices.Equal(births, given) {
				t.Fatal("the births are changed", given, births)
			}
			if at, ok := sched.Due(c, n, make([]int, c.Trees+1)); at != 0 || ok {
				t.Fatal(c, n, at, ok)
			}
		}
	}
	if yes < 5000 || no < 5000 {
		t.Error("seldom tested", yes, no)
	}
}

// P20.1: by hand.
func TestDueEdges(t *testing.T) {
	c := conf(8, 5, 3)
	for i, d := range []struct {
		count  int
		births []int
		at     int
		ok     bool
	}{
		{0, nil, 0, false}, {5, nil, 0, false}, {8, nil, 0, false}, {9, nil, 0, false}, {10, nil, 0, true}, {11, nil, 0, false}, {14, nil, 0, false}, {15, nil, 0, true}, {15, []int{}, 0, true},
		{15, []int{10}, 1, true}, {20, []int{10, 15}, 2, true}, {25, []int{10, 15, 20}, 0, true}, {30, []int{25, 15, 20}, 1, true}, {35, []int{25, 30, 20}, 2, true},
		{25, []int{3, 1, 1}, 1, true}, {25, []int{1, 1, 1}, 0, true}, {25, []int{1, 3, 1}, 0, true}, {25, []int{least, most, least}, 0, true}, {25, []int{most, 0, least}, 2, true}, {25, []int{most, most, most}, 0, true}, {25, []int{99, 98, 97}, 2, true},
		{24, []int{1, 3, 1}, 0, false}, {25, []int{1, 1, 1, 1}, 0, false}, {25, make([]int, 17), 0, false}, {25, make([]int, 100), 0, false},
		{-5, nil, 0, false}, {-10, nil, 0, false}, {least, nil, 0, false}, {most, nil, 0, false}, {most - 2, nil, 0, true}, {count, nil, 0, false}, {count + 4, nil, 0, true}, {count + 4, []int{7, 8, 6}, 2, true},
	} {
		if at, ok := sched.Due(c, d.count, d.births); at != d.at || ok != d.ok {
			t.Error(i, d, at, ok)
		}
	}
	for _, c := range wrong() {
		for _, n := range []int{0, 1, 10, 15, 256, 1000, count, least, most} {
			for _, births := range [][]int{nil, {1}, {1, 2, 3}, make([]int, 20)} {
				if at, ok := sched.Due(c, n, births); at != 0 || ok {
					t.Error(c, n, births, at, ok)
				}
			}
		}
	}
}

// turnAbove is the least turn above n, found by counting.
func turnAbove(c api.Conf, n int) int {
	for n++; !isTurn(c, n); n++ {
	}
	return n
}

// counts is numbers from 0 to MaxCount.
func counts() []int {
	l := []int{count / 2, count - 513, count - 257, count - 256, count - 255, count - 7, count - 2, count - 1, count}
	for n := range 300 {
		l = append(l, n, 5*n)
	}
	return l
}

// notCounts is numbers that are not from 0 to MaxCount.
func notCounts() []int {
	return []int{-1, -5, -256, count + 1, count + 256, 1 << 62, least, least + 1, most - 1, most}
}

// P20.2
func TestNext(t *testing.T) {
	for _, c := range confs() {
		for _, n := range counts() {
			if got, e := sched.Next(c, n); got != turnAbove(c, n) || e != api.OK {
				t.Fatal(c, n, got, e)
			}
		}
	}
	for n, want := range map[int]int{0: 10, 7: 10, 8: 10, 9: 10, 10: 15, 14: 15, 15: 20, count - 1: count + 4, count: count + 4} {
		if got, e := sched.Next(plain(), n); got != want || e != api.OK {
			t.Error(n, got, e)
		}
	}
}

// P20.2
func TestTurns(t *testing.T) {
	random := rand.New(rand.NewPCG(20, 2))
	for _, c := range confs() {
		for range 300 {
			from := random.IntN(1 + random.IntN(700))
			to := from + random.IntN(1+random.IntN(700))
			if random.IntN(4) == 0 {
				from, to = count-to, count-from
			}
			want := 0
			for n := from + 1; n <= to; n++ {
				if isTurn(c, n) {
					want++
				}
			}
			if got, e := sched.Turns(c, from, to); got != want || e != api.OK {
				t.Fatal(c, from, to, got, e, want)
			}
			if got, e := sched.Turns(c, to, from); got != 0 || e != api.OK {
				t.Fatal(c, to, from, got, e)
			}
		}
	}
	for i, n := range []struct{ sample, every, from, to, want int }{
		{8, 5, 12, 31, 4}, {8, 5, 31, 12, 0}, {8, 5, 10, 10, 0}, {8, 5, 9, 10, 1}, {8, 5, 10, 14, 0}, {8, 5, 10, 15, 1}, {8, 5, 0, 9, 0}, {8, 5, 0, 10, 1}, {8, 4, 0, 8, 1}, {8, 4, 0, 7, 0}, {8, 4, 8, 8, 0}, {9, 4, 0, 11, 0}, {9, 4, 0, 12, 1},
		{2, 1, 0, count, count - 1}, {2, 2, 0, count, count / 2}, {64, 1, 0, count, count - 63}, {64, 256, 0, count, count / 256}, {64, 64, 0, count, count / 64}, {64, 3, 0, count, count/3 - 21}, {2, 1, count, 0, 0}, {2, 1, count - 1, count, 1}, {2, 1, count, count, 0}, {2, 1, 0, 0, 0},
	} {
		if got, e := sched.Turns(conf(n.sample, n.every, 3), n.from, n.to); got != n.want || e != api.OK {
			t.Error(i, n, got, e)
		}
	}
}

// P20.2, R2: ErrConf is before ErrArg.
func TestNextTurnsErrors(t *testing.T) {
	some := []int{0, 1, 10, 99, count}
	for _, c := range wrong() {
		for _, n := range append(notCounts(), some...) {
			if got, e := sched.Next(c, n); got != 0 || e != api.ErrConf {
				t.Error(c, n, got, e)
			}
			for _, to := range append(notCounts(), some...) {
				if got, e := sched.Turns(c, n, to); got != 0 || e != api.ErrConf {
					t.Error(c, n, to, got, e)
				}
			}
		}
	}
	for _, c := range confs() {
		for _, n := range notCounts() {
			if got, e := sched.Next(c, n); got != 0 || e != api.ErrArg {
				t.Error(c, n, got, e)
			}
			for _, other := range append(notCounts(), some...) {
				if got, e := sched.Turns(c, n, other); got != 0 || e != api.ErrArg {
					t.Error(c, n, other, got, e)
				}
				if got, e := sched.Turns(c, other, n); got != 0 || e != api.ErrArg {
					t.Error(c, other, n, got, e)
				}
			}
		}
	}
}

// planned is the plan by the words, turn by turn.
func planned(c api.Conf, n int, births []int, turns int) ([]int, []int) {
	var indices []int
	after := slices.Clone(births)
	for range turns {
		n = turnAbove(c, n)
		at := place(c, after)
		indices = append(indices, at)
		after = slices.Replace(after, at, min(at+1, len(after)), n)
	}
	return indices, after
}

// P20.3, R3
func TestPlan(t *testing.T) {
	random := rand.New(rand.NewPCG(20, 3))
	for _, c := range confs() {
		for range 60 {
			n := []int{0, random.IntN(300), random.IntN(count), count - random.IntN(300), count}[random.IntN(5)]
			births := make([]int, random.IntN(c.Trees+1), 40)
			for i := range births {
				births[i] = max(0, n-random.IntN(1+random.IntN(50)))
			}
			turns := []int{0, 1, 2, random.IntN(65), 64}[random.IntN(5)]
			given := slices.Clone(births[:40])
			wantIndices, wantAfter := planned(c, n, births, turns)
			indices, after, e := sched.Plan(c, n, births, turns)
			if !slices.Equal(indices, wantIndices) || !slices.Equal(after, wantAfter) || e != api.OK {
				t.Fatal(c, n, births, turns, indices, after, e)
			}
			// New memory: what is done to it is not done to what was passed.
			for i := range after[:cap(after)] {
				after[:cap(after)][i] = -7
			}
			if !slices.Equal(births[:40], given) || !slices.Equal(indices, wantIndices) {
				t.Fatal("the lists share memory", c, n, given, turns)
			}
		}
	}
}

// P20.3: the document's example, and others by hand.
func TestPlanExamples(t *testing.T) {
	for i, p := range []struct {
		trees, count         int
		births               []int
		turns                int
		wantIndices, wantAll []int
	}{
		{2, 0, nil, 3, []int{0, 1, 0}, []int{20, 15}},
		{2, 0, nil, 0, nil, nil},
		{2, 9, []int{}, 1, []int{0}, []int{10}},
		{2, 20, []int{7, 5}, 0, nil, []int{7, 5}},
		{3, 20, []int{20, 10, 15}, 4, []int{1, 2, 0, 1}, []int{35, 40, 30}},
		{3, 20, []int{0, 0, 0}, 2, []int{0, 1}, []int{25, 30, 0}},
		{3, 0, []int{0, 0, 0}, 2, []int{0, 1}, []int{10, 15, 0}},
		{3, 20, []int{20, 20}, 2, []int{2, 0}, []int{30, 20, 25}},
		{1, 20, []int{20}, 3, []int{0, 0, 0}, []int{35}},
		{2, count, []int{count, count - 1}, 3, []int{1, 0, 1}, []int{count + 9, count + 14}},
	} {
		indices, all, e := sched.Plan(conf(8, 5, p.trees), p.count, p.births, p.turns)
		if !slices.Equal(indices, p.wantIndices) || !slices.Equal(all, p.wantAll) || e != api.OK {
			t.Error(i, indices, all, e)
		}
	}
}

// P20.3, R2: ErrConf is before ErrArg.
func TestPlanErrors(t *testing.T) {
	c := conf(8, 5, 3)
	refused := func(c api.Conf, n int, births []int, turns int, want api.Errno) {
		t.Helper()
		if indices, all, e := sched.Plan(c, n, births, turns); len(indices) != 0 || len(all) != 0 || e != want {
			t.Error(c, n, births, turns, indices, all, e)
		}
	}
	for _, n := range notCounts() {
		refused(c, n, nil, 1, api.ErrArg)
		refused(c, n, []int{0}, 0, api.ErrArg)
		refused(c, n, []int{n}, 3, api.ErrArg)
	}
	for _, births := range [][]int{{0, 0, 0, 0}, {20, 15, 10, 5}, make([]int, 17), {21}, {-1}, {1, 2, 21}, {1, 21, 2}, {1, 2, -1}, {-1, 2, 3}, {least}, {most}, {count + 1}} {
		for _, turns := range []int{0, 1, 64} {
			refused(c, 20, births, turns, api.ErrArg)
		}
	}
	refused(c, 0, []int{1}, 1, api.ErrArg)
	refused(c, count, []int{count + 1}, 1, api.ErrArg)
	for _, turns := range []int{-1, -64, 65, 66, 256, 1 << 40, least, most} {
		refused(c, 20, nil, turns, api.ErrArg)
		refused(c, 20, []int{20, 15, 10}, turns, api.ErrArg)
	}
	for _, c := range wrong() {
		refused(c, 20, []int{1}, 1, api.ErrConf)
		refused(c, -1, make([]int, 99), 65, api.ErrConf)
	}
}

// P20.4: indices repeat cyclically, and no tree is older than Trees turns.
func TestCycle(t *testing.T) {
	for _, c := range confs() {
		var births []int
		n := 0
		for k := range 50 {
			n, _ = sched.Next(c, n)
			at, ok := sched.Due(c, n, births)
			if !ok || at != k%c.Trees {
				t.Fatal(c, k, n, at, ok)
			}
			births = slices.Replace(births, at, min(at+1, len(births)), n)
			oldest := slices.Min(births)
			if turns, e := sched.Turns(c, oldest, n); turns >= c.Trees || e != api.OK {
				t.Fatal(c, k, n, turns, e)
			}
		}
		indices, after, e := sched.Plan(c, 0, nil, 50)
		if len(indices) != 50 || !slices.Equal(after, births) || e != api.OK {
			t.Fatal(c, indices, after, e, births)
		}
	}
}

// P20.3, P20.4: two plans, one after the other, are one.
func TestPlanGoesOn(t *testing.T) {
	for _, c := range confs() {
		indices, births, e := sched.Plan(c, 0, nil, 64)
		if e != api.OK {
			t.Fatal(c, e)
		}
		for first := 1; first <= 64; first += 7 {
			a, middle, _ := sched.Plan(c, 0, nil, first)
			b, end, e := sched.Plan(c, slices.Max(middle), middle, 64-first)
			if !slices.Equal(slices.Concat(a, b), indices) || !slices.Equal(end, births) || e != api.OK {
				t.Error(c, first, a, b, end, e)
			}
		}
	}
}

// P20.4: the number of turns is the number of times that Next advances.
func TestTurnsAreSteps(t *testing.T) {
	for _, c := range confs() {
		for _, from := range []int{0, 1, 7, 63, 64, 100, 256, count - 600} {
			steps, at := 0, from
			for to := from; to < from+600; to++ {
				if next, _ := sched.Next(c, at); next == to {
					steps, at = steps+1, next
				}
				if n, e := sched.Turns(c, from, to); n != steps || e != api.OK {
					t.Fatal(c, from, to, n, e, steps)
				}
			}
		}
	}
}
