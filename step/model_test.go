package step_test

import (
	"math/big"
	"math/rand/v2"
	"slices"
	"testing"

	"copse/api"
	"copse/draw"
	"copse/explain"
	"copse/forest"
	"copse/harm"
	"copse/path"
	"copse/state"
	"copse/step"
	"copse/tree"
)

// confs is valid configurations of all sorts, whose draws suffice mostly.
func confs() []api.Conf {
	var l []api.Conf
	for i, sample := range []int{2, 3, 5, 8, 16, 64} {
		for j, every := range []int{1, 2, 3, 7, 16} {
			for k, trees := range []int{1, 2, 5, 16} {
				n := i + 3*j + 5*k
				c := api.Conf{Dim: 1 + n%8, Window: sample + []int{0, 1, 5, 33}[n%4], Trees: trees, Sample: sample, Every: every, Kind: 1 + n%2, Part: 1 + n%3, Whole: 4 + 3*(n%5), Tries: 1 + n%6, Keep: 1 + n%7, Notes: 1 + n}
				l = append(l, c)
			}
		}
	}
	return l
}

// value is a score as a fraction.
func value(s api.Score) *big.Rat {
	return big.NewRat(int64(s.P), int64(s.Q))
}

// lineOf is the line of a state by the words: the scored events in the window, in order, the greatest one first.
func lineOf(s api.State) (api.Score, bool) {
	var l []api.Score
	for _, seen := range s.Window {
		if seen.Scored {
			l = append(l, seen.Score)
		}
	}
	if len(l) < s.Conf.Sample {
		return api.Score{}, false
	}
	slices.SortFunc(l, func(a, b api.Score) int { return value(b).Cmp(value(a)) })
	rank := 0
	for rank*s.Conf.Whole < (s.Conf.Whole-s.Conf.Part)*len(l) {
		rank++
	}
	return l[rank-1], true
}

// judged is the answer to AskScore by the words, for a state with trees; without its kind.
func judged(s api.State, x []int) api.Told {
	sum := 0
	for _, g := range s.Forest {
		n, _ := path.Length(g.Tree, x)
		sum += n
	}
	of := big.NewRat(int64(sum), int64(len(s.Forest)))
	told := api.Told{Score: api.Score{P: int(of.Num().Int64()), Q: int(of.Denom().Int64())}, Scored: true}
	c := big.NewRat(int64(harm.Norm(s.Conf.Sample)), 1)
	level := new(big.Rat).Quo(new(big.Rat).Mul(c, big.NewRat(1000, 1)), new(big.Rat).Add(c, of))
	told.Level = int(new(big.Int).Quo(level.Num(), level.Denom()).Int64())
	line, ok := lineOf(s)
	told.Over = ok && of.Cmp(value(line)) <= 0
	return told
}

// planted is the tree that is grown from the window, by the words.
func planted(s api.State, l []uint64) (api.Tree, int, api.Errno) {
	c, at := s.Conf, 0
	rest := slices.Clone(s.Window)
	var points [][]int
	for i := range c.Sample {
		n, after, e := draw.Bound(l, at, uint64(len(rest)-i), c.Tries)
		if e != api.OK {
			return api.Tree{}, 0, e
		}
		at = after
		rest[i], rest[i+int(n)] = rest[i+int(n)], rest[i]
		points = append(points, rest[i].X)
	}
	return tree.Grow(c.Kind, points, l, at, c.Tries)
}

// accepted is the state after an event that may be accepted, by the words.
func accepted(s api.State, a api.Ask, l []uint64) (api.State, api.Told, int, api.Errno) {
	var told api.Told
	if len(s.Forest) > 0 {
		told = judged(s, a.X)
	}
	line, _ := lineOf(s)
	n := s
	n.Window = append(slices.Clone(s.Window), api.Seen{Id: a.Id, X: a.X, Score: told.Score, Scored: told.Scored})
	if len(n.Window) > s.Conf.Window {
		n.Window = n.Window[1:]
	}
	n.Count, n.Last = s.Count+1, a.Id
	used := 0
	if n.Count >= s.Conf.Sample && n.Count%s.Conf.Every == 0 {
		t, many, e := planted(n, l)
		if e != api.OK {
			return s, api.Told{}, 0, e
		}
		used, n.Forest = many, slices.Clone(s.Forest)
		place := len(n.Forest)
		if place == s.Conf.Trees {
			place, _ = forest.Oldest(n.Forest)
			n.Forest = slices.Delete(n.Forest, place, place+1)
		}
		n.Forest = slices.Insert(n.Forest, place, api.Grown{Tree: t, Born: n.Count})
	}
	if told.Over {
		n.Seq++
		told.Seq = n.Seq
		n.Alerts = append(slices.Clone(s.Alerts), api.Alert{Seq: n.Seq, Id: a.Id, Score: told.Score, Line: line})
	}
	return n, told, used, api.OK
}

// model is a step by the words, for a valid state and a valid request.
func model(s api.State, a api.Ask, l []uint64) (next api.State, told api.Told, used int, e api.Errno) {
	next = s
	uses := a.Kind == api.AskPut || a.Kind == api.AskScore || a.Kind == api.AskWhy
	switch {
	case uses && len(a.X) != s.Conf.Dim:
		e = api.ErrVec
	case uses && a.Kind != api.AskPut && len(s.Forest) == 0:
		e = api.ErrNone
	case a.Kind == api.AskPut && a.Id <= s.Last:
		e = api.ErrOnce
	case a.Kind == api.AskPut && len(s.Alerts) == s.Conf.Keep:
		e = api.ErrBusy
	case a.Kind == api.AskPut && s.Count == api.MaxCount:
		e = api.ErrLong
	case a.Kind == api.AskPut:
		next, told, used, e = accepted(s, a, l[:min(len(l), 2048)])
	case a.Kind == api.AskScore:
		told = judged(s, a.X)
	case a.Kind == api.AskWhy:
		told.Why, e = explain.All(forest.Trees(s.Forest), a.X)
	case a.Kind == api.AskAck && a.N > s.Seq:
		e = api.ErrArg
	case a.Kind == api.AskAck:
		next.Alerts = slices.DeleteFunc(slices.Clone(s.Alerts), func(b api.Alert) bool { return b.Seq <= a.N })
		told.N = len(s.Alerts) - len(next.Alerts)
	case a.Kind == api.AskAlerts:
		told.Alerts = slices.DeleteFunc(slices.Clone(s.Alerts), func(b api.Alert) bool { return b.Seq < a.N })
		told.Alerts = told.Alerts[:min(a.M, len(told.Alerts))]
	case a.Kind == api.AskStats:
		told.Stats = api.Stats{Count: s.Count, Window: len(s.Window), Trees: len(s.Forest), Waiting: len(s.Alerts), Seq: s.Seq}
		told.Stats.Line, told.Stats.Lined = lineOf(s)
	}
	if e == api.OK {
		told.Kind = a.Kind
	}
	return next, told, used, e
}

// vector is a random one: mostly an ordinary one.
func vector(random *rand.Rand, dim int) []int {
	x := make([]int, dim)
	for i := range x {
		x[i] = random.IntN(12)
		switch random.IntN(20) {
		case 0:
			x[i] = api.LeastValue + random.IntN(5)
		case 1:
			x[i] = api.MostValue - random.IntN(5)
		}
	}
	return x
}

// asks is a random request for s, mostly one that may succeed.
func asks(random *rand.Rand, s api.State) api.Ask {
	dim := s.Conf.Dim
	if random.IntN(30) == 0 {
		dim = random.IntN(9)
	}
	x := vector(random, dim)
	switch random.IntN(12) {
	case 0:
		return api.Ask{Kind: api.AskScore, X: x}
	case 1:
		return api.Ask{Kind: api.AskWhy, X: x}
	case 2:
		return api.Ask{Kind: api.AskAlerts, N: max(0, s.Seq-random.IntN(9)), M: random.IntN(9)}
	case 3:
		return api.Ask{Kind: api.AskAck, N: max(0, s.Seq+2-random.IntN(9))}
	case 4:
		return api.Ask{Kind: []int{api.AskStats, api.AskSnap}[random.IntN(2)]}
	}
	return api.Ask{Kind: api.AskPut, Id: s.Last + random.IntN(9), X: x}
}

// some is random draws, which sometimes do not suffice.
func some(random *rand.Rand, c api.Conf) []uint64 {
	if random.IntN(6) == 0 {
		return draws(random, random.IntN(1+c.Sample*(2+c.Dim)))
	}
	return draws(random, []int{c.Sample * 40, 2048, 2049, 2500}[random.IntN(4)])
}

// count is how often things came about.
type count map[api.Errno]int

// follow takes n random steps from s, each of which must be as the model's.
func follow(t *testing.T, random *rand.Rand, s api.State, n int, seen count) api.State {
	t.Helper()
	for range n {
		a, l := asks(random, s), some(random, s.Conf)
		want, wantTold, wantUsed, wantErr := model(s, a, l)
		next, got, used, e := step.Do(s, a, l)
		if e != wantErr || used != wantUsed || !told(got, wantTold) || !state.Same(next, want) {
			t.Fatal(s, a, "told", got, used, e, "not", wantTold, wantUsed, wantErr, "state", next, "not", want)
		}
		if !state.Right(next) || used > step.Draws(s.Conf) {
			t.Fatal(s, a, used, next)
		}
		if !step.Changes(a.Kind) && !state.Same(next, s) {
			t.Fatal(s, a, next)
		}
		if used > 0 {
			further(t, s, a, l, used)
			seen[-1]++
		}
		if got.Over && a.Kind == api.AskPut {
			seen[-2]++
		}
		seen[e]++
		s = next
	}
	return s
}

// further takes the step again, with other draws behind those that are used, and with none; and with one less.
func further(t *testing.T, s api.State, a api.Ask, l []uint64, used int) {
	t.Helper()
	want, wantTold, _, _ := step.Do(s, a, l)
	for _, more := range [][]uint64{nil, {7}, make([]uint64, 2500)} {
		next, got, n, e := step.Do(s, a, append(l[:used:used], more...))
		if e != api.OK || n != used || !told(got, wantTold) || !state.Same(next, want) {
			t.Fatal(s, a, used, n, e)
		}
	}
	if _, _, _, e := step.Do(s, a, l[:used-1]); e != api.ErrDraws {
		t.Fatal(s, a, used, e)
	}
}

// P29.1, P29.3
func TestMany(t *testing.T) {
	random := rand.New(rand.NewPCG(29, 1))
	seen := count{}
	for _, c := range confs() {
		follow(t, random, fresh(t, c), 5*c.Sample+3*c.Every+20, seen)
	}
	for _, e := range []api.Errno{-1, -2, api.OK, api.ErrArg, api.ErrVec, api.ErrNone, api.ErrOnce, api.ErrBusy, api.ErrDraws, api.ErrTries} {
		if seen[e] < 20 {
			t.Error("seldom tested", e, seen[e])
		}
	}
}

// old reports whether all events of the window have scores, and there are all trees.
func old(s api.State) bool {
	return len(s.Window) > 0 && s.Window[0].Scored && len(s.Forest) == s.Conf.Trees
}

// shaken is a state as valid as s, with other scores, cuts and alerts, after many more events.
func shaken(t *testing.T, random *rand.Rand, s api.State) api.State {
	t.Helper()
	if old(s) {
		s = aged(t, s, min(api.MaxCount, s.Count+random.IntN(1<<30)<<random.IntN(11)))
	}
	for i := range s.Window {
		if s.Window[i].Scored {
			s.Window[i].Score = someScore(random)
		}
	}
	for _, g := range s.Forest {
		for k, n := range g.Tree.Nodes {
			if n.Left > 0 {
				g.Tree.Nodes[k].Cut.At = random.IntN(12)
			}
		}
	}
	s.Seq, s.Alerts = random.IntN(s.Count+1), nil
	for k := range min(random.IntN(s.Conf.Keep+1), s.Seq, s.Last) {
		of := someScore(random)
		s.Alerts = append(s.Alerts, api.Alert{Id: 1 + k, Score: of, Line: of})
	}
	for k := range s.Alerts {
		s.Alerts[k].Seq = s.Seq - len(s.Alerts) + 1 + k
	}
	if !state.Right(s) {
		t.Fatal(s)
	}
	return s
}

// someScore is a random valid one; many are equal, or nearly so.
func someScore(random *rand.Rand) api.Score {
	p := random.IntN(3)*unit + random.IntN(2)
	if random.IntN(9) == 0 {
		p = random.IntN(api.MaxSum + 1)
	}
	r := big.NewRat(int64(p), int64(1+random.IntN(api.MaxTrees)))
	return api.Score{P: int(r.Num().Int64()), Q: int(r.Denom().Int64())}
}

// P29.1, P29.3: from states that need not come from steps.
func TestFromAny(t *testing.T) {
	random := rand.New(rand.NewPCG(29, 2))
	seen := count{}
	all := confs()
	for i := range 150 {
		c := all[random.IntN(len(all))]
		s := follow(t, random, fresh(t, c), 2*c.Sample+random.IntN(3*c.Window), seen)
		s = shaken(t, random, s)
		if i%3 == 0 && old(s) {
			s = aged(t, s, api.MaxCount-random.IntN(9))
		}
		follow(t, random, s, 60, seen)
	}
	if seen[api.ErrLong] < 20 || seen[-1] < 100 || seen[-2] < 100 {
		t.Error("seldom tested", seen)
	}
}

// P29.3: the alerts of a long run have the Seqs 1, 2, 3 and so on, each in the order of the events.
func TestNoGaps(t *testing.T) {
	random := rand.New(rand.NewPCG(29, 4))
	for _, c := range confs()[:40] {
		s, seq := fresh(t, c), 0
		for range 300 {
			next, told, _, e := step.Do(s, put(s.Last+1, vector(random, c.Dim)...), some(random, c))
			if e == api.ErrBusy {
				next, _, _, _ = step.Do(s, api.Ask{Kind: api.AskAck, N: s.Seq - random.IntN(c.Keep)}, nil)
			}
			if told.Over {
				seq++
				if told.Seq != seq || next.Alerts[len(next.Alerts)-1].Seq != seq || next.Alerts[len(next.Alerts)-1].Id != next.Last {
					t.Fatal(c, told, next.Alerts)
				}
			}
			if next.Seq != seq {
				t.Fatal(c, next.Seq, seq)
			}
			s = next
		}
	}
}
