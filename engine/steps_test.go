package engine_test

import (
	"math/rand/v2"
	"testing"

	"copse/api"
	"copse/engine"
	"copse/score"
	"copse/state"
	"copse/step"
)

// confs is valid configurations of all sorts.
func confs() []api.Conf {
	var l []api.Conf
	for i, sample := range []int{2, 3, 8, 17, 64} {
		for j, every := range []int{1, 2, 5, 16} {
			for k, trees := range []int{1, 3, 16} {
				n := 7*i + 3*j + k
				l = append(l, api.Conf{Dim: 1 + n%8, Window: sample + []int{0, 1, 7, 64}[n%4], Trees: trees, Sample: sample, Every: every, Kind: 1 + n%2, Part: 1 + n%3, Whole: 4 + 9*(n%3), Tries: 1 + n%5, Keep: 1 + n%9, Notes: 3})
			}
		}
	}
	return l
}

// draws is random ones, of which few do not count.
func draws(random *rand.Rand, n int) []uint64 {
	l := make([]uint64, n)
	for i := range l {
		l[i] = random.Uint64()
		if random.IntN(60) == 0 {
			l[i] = 1<<64 - 1
		}
	}
	return l
}

// vector is a random one, mostly an ordinary one.
func vector(random *rand.Rand, dim int) []int {
	x := make([]int, dim)
	for i := range x {
		x[i] = random.IntN(12)
		if random.IntN(12) == 0 {
			x[i] = random.IntN(1<<32) - 1<<31
		}
	}
	return x
}

// asks is a random request for s, mostly to put an event.
func asks(random *rand.Rand, s api.State) api.Ask {
	dim := s.Conf.Dim
	if random.IntN(40) == 0 {
		dim = random.IntN(10)
	}
	x := vector(random, dim)
	switch random.IntN(14) {
	case 0:
		return api.Ask{Kind: api.AskScore, X: x}
	case 1:
		return api.Ask{Kind: api.AskWhy, X: x}
	case 2:
		return api.Ask{Kind: api.AskAlerts, N: max(0, s.Seq-random.IntN(9)), M: random.IntN(9)}
	case 3, 4:
		return api.Ask{Kind: api.AskAck, N: max(0, s.Seq+2-random.IntN(9))}
	case 5:
		return api.Ask{Kind: random.IntN(9)}
	}
	return put(s.Last+random.IntN(9), x...)
}

// some is random draws for a request, which mostly suffice.
func some(random *rand.Rand, c api.Conf) []uint64 {
	if random.IntN(6) == 0 {
		return draws(random, random.IntN(1+c.Sample*(2+c.Dim)))
	}
	return draws(random, []int{c.Sample * 40, 2048, 2049, 2500}[random.IntN(4)])
}

// run is the state after n events, by steps.
func run(t *testing.T, random *rand.Rand, c api.Conf, n int) api.State {
	t.Helper()
	s, e := state.New(c)
	if e != api.OK {
		t.Fatal(e)
	}
	for range 20 * (n + 1) {
		if s.Count == n {
			return s
		}
		next, _, _, e := step.Do(s, put(s.Last+1+random.IntN(3), vector(random, c.Dim)...), draws(random, 2048))
		if e == api.ErrBusy {
			next, _, _, _ = step.Do(s, api.Ask{Kind: api.AskAck, N: s.Seq - random.IntN(c.Keep)}, nil)
		}
		s = next
	}
	t.Fatal("too few events are accepted", s)
	return s
}

// follow makes n random trials, most of which are committed, each of which must be like a step.
func follow(t *testing.T, random *rand.Rand, g *engine.Engine, s api.State, n int, seen map[api.Errno]int) (*engine.Engine, api.State) {
	t.Helper()
	for range n {
		a, l := asks(random, s), some(random, s.Conf)
		next, holds := tries(t, g, s, a, l)
		_, _, used, e := step.Do(s, a, l)
		seen[e]++
		if used > 0 {
			seen[-1]++
		}
		switch random.IntN(5) {
		case 0:
			has(t, g, s)
			continue
		case 1:
			if _, n, f := g.Do(a, l); n != used || f != e || g.Commit() {
				t.Fatal(a, n, f, e)
			}
		default:
			if g.Commit() != holds {
				t.Fatal(a, holds)
			}
		}
		if random.IntN(20) == 0 {
			has(t, g, next)
			g = opened(t, g.State())
		}
		if s.Seq < next.Seq {
			seen[-2]++
		}
		s = next
	}
	has(t, g, s)
	return g, s
}

// P30.1 to P30.3
func TestSteps(t *testing.T) {
	random := rand.New(rand.NewPCG(30, 3))
	seen := map[api.Errno]int{}
	for _, c := range confs() {
		s, _ := state.New(c)
		follow(t, random, fresh(t, c), s, 6*c.Sample+4*c.Every+20, seen)
	}
	for _, e := range []api.Errno{-1, -2, api.OK, api.ErrArg, api.ErrVec, api.ErrNone, api.ErrOnce, api.ErrBusy, api.ErrDraws, api.ErrTries} {
		if seen[e] < 20 {
			t.Error("seldom tested", e, seen[e])
		}
	}
}

// someScore is a random valid one; many are equal, or nearly so.
func someScore(random *rand.Rand) api.Score {
	p := random.IntN(3)*api.Unit + random.IntN(2)
	if random.IntN(9) == 0 {
		p = random.IntN(api.MaxSum + 1)
	}
	s, _ := score.Of(p, 1+random.IntN(api.MaxTrees))
	return s
}

// old reports whether all events of the window have scores, and there are all trees.
func old(s api.State) bool {
	return s.Window[0].Scored && len(s.Forest) == s.Conf.Trees
}

// shaken is a state as valid as s, with other scores, cuts and alerts; if it is old, after that many events.
func shaken(t *testing.T, random *rand.Rand, s api.State, count int) api.State {
	t.Helper()
	if old(s) {
		s.Count = count
		births, _ := state.Births(s.Conf, count)
		for i := range s.Forest {
			s.Forest[i].Born = births[i]
		}
	}
	for i := range s.Window {
		if s.Window[i].Scored {
			s.Window[i].Score = someScore(random)
		}
	}
	for _, g := range s.Forest {
		for k, n := range g.Tree.Nodes {
			if n.Left > 0 {
				g.Tree.Nodes[k].Cut.At = random.IntN(12)
			}
		}
	}
	s.Seq, s.Alerts = random.IntN(s.Count+1), nil
	many := min(random.IntN(s.Conf.Keep+1), s.Seq, s.Last)
	for k := range many {
		of := someScore(random)
		s.Alerts = append(s.Alerts, api.Alert{Seq: s.Seq - many + 1 + k, Id: 1 + k, Score: of, Line: of})
	}
	if !state.Right(s) {
		t.Fatal(s)
	}
	return s
}

// P30.3: from states that need not come from steps.
func TestFromAny(t *testing.T) {
	random := rand.New(rand.NewPCG(30, 4))
	seen := map[api.Errno]int{}
	all := confs()
	for i := range 120 {
		c := all[random.IntN(len(all))]
		s := run(t, random, c, c.Sample+random.IntN(3*c.Window))
		count := api.MaxCount - random.IntN(9)
		if i%2 == 0 {
			count = s.Count + random.IntN(1<<30)<<random.IntN(11)
		}
		s = shaken(t, random, s, min(count, api.MaxCount))
		follow(t, random, opened(t, s), s, 60, seen)
	}
	if seen[api.ErrLong] < 20 || seen[-1] < 100 || seen[-2] < 100 {
		t.Error("seldom tested", seen)
	}
}

// P30.3: with a window, a forest and trees as large as they may be.
func TestLarge(t *testing.T) {
	random := rand.New(rand.NewPCG(30, 5))
	c := api.Conf{Dim: 8, Window: 256, Trees: 16, Sample: 64, Every: 16, Kind: api.KindPlane, Part: 500, Whole: 1000, Tries: 64, Keep: 64, Notes: 256}
	s, _ := state.New(c)
	g, s := follow(t, random, fresh(t, c), s, 900, map[api.Errno]int{})
	if st := g.Stats(); st.Window != 256 || st.Trees != 16 || st.Seq < 64 {
		t.Error(st)
	}
	s = shaken(t, random, s, api.MaxCount-9)
	follow(t, random, opened(t, s), s, 60, map[api.Errno]int{})
}
