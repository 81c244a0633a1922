package state_test

import (
	"bytes"
	"math/rand/v2"
	"slices"
	"testing"

	"copse/api"
	"copse/bin"
	"copse/item"
	"copse/num"
	"copse/quant"
	"copse/sched"
	"copse/score"
	"copse/state"
	"copse/tree"
	"copse/wood"
)

const (
	least = -1 << 63
	most  = 1<<63 - 1
	last  = 1 << 40
	reach = 1 << 37
)

// conf is a valid configuration with these turns and trees.
func conf(window, sample, every, trees int) api.Conf {
	return api.Conf{Dim: 2, Window: window, Trees: trees, Sample: sample, Every: every, Kind: api.KindPlane, Part: 1, Whole: 4, Tries: 4, Keep: 3, Notes: 9}
}

// confs is valid configurations of all sorts.
func confs() []api.Conf {
	var l []api.Conf
	for _, sample := range []int{2, 3, 8, 64} {
		for _, every := range []int{1, 2, 3, 5, 7, 8, 9, 64, 256} {
			for _, trees := range []int{1, 2, 3, 16} {
				c := conf(sample+(every*trees)%(257-sample), sample, every, trees)
				c.Dim, c.Keep = 1+(every+trees)%8, 1+(every*sample)%64
				l = append(l, c)
			}
		}
	}
	return l
}

// wrongConfs is configurations that are not valid.
func wrongConfs() []api.Conf {
	l := []api.Conf{{}, conf(4, 5, 1, 1), conf(257, 5, 1, 1), conf(8, 1, 1, 1), conf(8, 4, 0, 1), conf(8, 4, 257, 1), conf(8, 4, 2, 0), conf(8, 4, 2, 17), conf(least, least, least, least), conf(most, most, most, most)}
	c := conf(8, 4, 2, 2)
	for _, f := range []func(c *api.Conf){
		func(c *api.Conf) { c.Dim = 0 }, func(c *api.Conf) { c.Dim = 9 }, func(c *api.Conf) { c.Kind = 3 }, func(c *api.Conf) { c.Part = 4 }, func(c *api.Conf) { c.Whole = 1 },
		func(c *api.Conf) { c.Tries = 0 }, func(c *api.Conf) { c.Keep = 65 }, func(c *api.Conf) { c.Notes = 0 }, func(c *api.Conf) { c.Notes = 257 },
	} {
		wrong := c
		f(&wrong)
		l = append(l, wrong)
	}
	return l
}

// nodes is the nodes of a random tree of so many points, from a depth on.
func nodes(random *rand.Rand, dim, depth, limit, size int) []api.Node {
	if size == 1 || depth == limit || random.IntN(5) == 0 {
		return []api.Node{{Size: size}}
	}
	coef := make([]int, dim)
	for i := range coef {
		coef[i] = random.IntN(9) - 4
	}
	coef[random.IntN(dim)] = 1 + random.IntN(4)
	at := (random.IntN(2*reach+1) - reach) >> random.IntN(38)
	left := 1 + random.IntN(size-1)
	return fork(coef, at, nodes(random, dim, depth+1, limit, left), nodes(random, dim, depth+1, limit, size-left))
}

// fork is the nodes of what a cut parts, as if the first one was the root.
func fork(coef []int, at int, left, right []api.Node) []api.Node {
	l := []api.Node{{Cut: api.Cut{Coef: slices.Clone(coef), At: at}, Left: 1, Right: 1 + len(left), Size: left[0].Size + right[0].Size}}
	for _, side := range [][]api.Node{left, right} {
		from := len(l)
		for _, n := range side {
			if n.Left != 0 {
				n.Left, n.Right = n.Left+from, n.Right+from
			}
			l = append(l, n)
		}
	}
	return l
}

// births is what Births must be, by the words.
func births(c api.Conf, count int) []int {
	var l []int
	for n := 1; n <= count; n++ {
		if n < c.Sample || n%c.Every != 0 {
			continue
		}
		if len(l) < c.Trees {
			l = append(l, n)
			continue
		}
		l[slices.Index(l, slices.Min(l))] = n
	}
	return l
}

// firstTurn is the least turn above 0, by the words.
func firstTurn(c api.Conf) int {
	for n := 1; ; n++ {
		if n >= c.Sample && n%c.Every == 0 {
			return n
		}
	}
}

func someScore(random *rand.Rand) api.Score {
	s, _ := score.Of(random.IntN(5)*api.Unit+random.IntN(3), 1+random.IntN(16))
	return s
}

// seen is a random event.
func seen(random *rand.Rand, id, dim int, scored bool) api.Seen {
	s := api.Seen{Id: id, Scored: scored}
	for range dim {
		s.X = append(s.X, (random.IntN(1<<32)-1<<31)>>random.IntN(32))
	}
	if scored {
		s.Score = someScore(random)
	}
	return s
}

// made is a random valid state after count events, by the words.
func made(random *rand.Rand, c api.Conf, count int) api.State {
	s := api.State{Conf: c, Count: count}
	size := min(count, c.Window)
	for n := count - size + 1; n <= count; n++ {
		s.Last += 1 + random.IntN(1+random.IntN(1000))
		s.Window = append(s.Window, seen(random, s.Last, c.Dim, n > firstTurn(c)))
	}
	for _, born := range births(c, count) {
		t := api.Tree{Dim: c.Dim, Nodes: nodes(random, c.Dim, 0, num.Log(c.Sample), c.Sample)}
		s.Forest = append(s.Forest, api.Grown{Tree: t, Born: born})
	}
	if count == 0 {
		return s
	}
	s.Seq = []int{count, random.IntN(count + 1)}[random.IntN(2)]
	waiting := min(random.IntN(c.Keep+1), s.Seq, s.Last)
	// The Ids need not be those of events of the window.
	id := s.Last - waiting - random.IntN(s.Last-waiting+1)
	for k := range waiting {
		line := someScore(random)
		a := api.Alert{Seq: s.Seq - waiting + 1 + k, Id: id + k + 1, Score: line, Line: line}
		if worse := someScore(random); score.Is(worse) && over(worse, line) {
			a.Score = worse
		}
		s.Alerts = append(s.Alerts, a)
	}
	return s
}

func over(s, line api.Score) bool {
	is, _ := quant.Over(s, line)
	return is
}

// states is random valid states.
func states(random *rand.Rand, n int) []api.State {
	var l []api.State
	all := confs()
	for i := range n {
		c := all[random.IntN(len(all))]
		l = append(l, made(random, c, []int{0, 1, random.IntN(c.Sample + 1), c.Window, random.IntN(2 * c.Window), firstTurn(c), firstTurn(c) + 1, random.IntN(1000)}[i%8]))
	}
	return l
}

// copied is s in memory of its own.
func copied(s api.State) api.State {
	s.Window, s.Forest, s.Alerts = slices.Clone(s.Window), slices.Clone(s.Forest), slices.Clone(s.Alerts)
	for i := range s.Window {
		s.Window[i].X = slices.Clone(s.Window[i].X)
	}
	for i := range s.Forest {
		t := &s.Forest[i].Tree
		t.Nodes = slices.Clone(t.Nodes)
		for k := range t.Nodes {
			t.Nodes[k].Cut.Coef = slices.Clone(t.Nodes[k].Cut.Coef)
		}
	}
	return s
}

// spoil changes all that is in the memory of s.
func spoil(s api.State) {
	for _, e := range s.Window {
		for i := range e.X {
			e.X[i] = 99
		}
	}
	for _, g := range s.Forest {
		for _, n := range g.Tree.Nodes {
			for i := range n.Cut.Coef {
				n.Cut.Coef[i] = 99
			}
		}
		clear(g.Tree.Nodes)
	}
	clear(s.Window[:cap(s.Window)])
	clear(s.Forest[:cap(s.Forest)])
	clear(s.Alerts[:cap(s.Alerts)])
}

// same is Same, by the words.
func same(a, b api.State) bool {
	equal := slices.EqualFunc(a.Window, b.Window, func(s, r api.Seen) bool {
		return s.Id == r.Id && slices.Equal(s.X, r.X) && s.Score == r.Score && s.Scored == r.Scored
	})
	equal = equal && slices.EqualFunc(a.Forest, b.Forest, func(g, h api.Grown) bool { return g.Born == h.Born && tree.Same(g.Tree, h.Tree) })
	return equal && slices.Equal(a.Alerts, b.Alerts) && a.Conf == b.Conf && a.Count == b.Count && a.Last == b.Last && a.Seq == b.Seq
}

// plain is a valid state after 9 events, of which the last 6 are in the window; the trees of the turns 4, 6 and 8 were grown, and 3 alerts of 5 wait.
func plain() api.State {
	two, one := api.Score{P: 2, Q: 1}, api.Score{P: 1, Q: 1}
	leaf := api.Tree{Dim: 2, Nodes: []api.Node{{Size: 4}}}
	fork := api.Tree{Dim: 2, Nodes: fork([]int{1, -1}, 3, []api.Node{{Size: 1}}, []api.Node{{Size: 3}})}
	return api.State{
		Conf: conf(6, 4, 2, 2), Count: 9, Last: 23, Seq: 5,
		Window: []api.Seen{{Id: 11, X: []int{1, 2}}, {Id: 15, X: []int{3, 4}, Scored: true, Score: two}, {Id: 16, X: []int{5, 6}, Scored: true, Score: one}, {Id: 17, X: []int{7, 8}, Scored: true, Score: api.Score{P: 3, Q: 1}}, {Id: 20, X: []int{9, 9}, Scored: true, Score: api.Score{P: 3, Q: 2}}, {Id: 23, X: []int{0, 0}, Scored: true, Score: api.Score{P: 0, Q: 1}}},
		Forest: []api.Grown{{Born: 8, Tree: leaf}, {Born: 6, Tree: fork}},
		Alerts: []api.Alert{{Seq: 3, Id: 5, Score: one, Line: two}, {Seq: 4, Id: 16, Score: one, Line: one}, {Seq: 5, Id: 23, Score: api.Score{P: 0, Q: 1}, Line: one}},
	}
}

// few is a valid state after one event, without a tree.
func few() api.State {
	return api.State{Conf: conf(6, 4, 2, 2), Count: 1, Last: 7, Window: []api.Seen{{Id: 7, X: []int{1, 2}}}}
}

// big is a valid state with all numbers as large as they can be.
func big() api.State {
	c := api.Conf{Dim: 8, Window: 256, Trees: 16, Sample: 64, Every: 256, Kind: 2, Part: 999, Whole: 1000, Tries: 64, Keep: 64, Notes: 256}
	s := api.State{Conf: c, Count: last, Last: last, Seq: last}
	// A score's parts are reduced: the greatest one has an odd P.
	long := api.Score{P: api.MaxSum - 1, Q: 16}
	for i := range 256 {
		s.Window = append(s.Window, api.Seen{Id: last - 255 + i, X: slices.Repeat([]int{api.LeastValue}, 8), Scored: true, Score: long})
	}
	full := []api.Node{{Size: 1}}
	for range 6 {
		full = fork(slices.Repeat([]int{-4}, 8), -reach, full, full)
	}
	born, _ := state.Births(c, last)
	for _, n := range born {
		s.Forest = append(s.Forest, api.Grown{Tree: api.Tree{Dim: 8, Nodes: slices.Clone(full)}, Born: n})
	}
	for i := range 64 {
		s.Alerts = append(s.Alerts, api.Alert{Seq: last - 63 + i, Id: last - 63 + i, Score: long, Line: long})
	}
	return s
}

// P28.1
func TestNew(t *testing.T) {
	for _, c := range confs() {
		s, e := state.New(c)
		if !same(s, api.State{Conf: c}) || e != api.OK || !state.Right(s) {
			t.Error(c, s, e)
		}
	}
	for _, c := range wrongConfs() {
		if s, e := state.New(c); !same(s, api.State{}) || e != api.ErrConf {
			t.Error(c, s, e)
		}
	}
}

// P28.1, the chapter's example.
func TestBirths(t *testing.T) {
	if l, e := state.Births(conf(8, 8, 5, 2), 21); !slices.Equal(l, []int{20, 15}) || e != api.OK {
		t.Error(l, e)
	}
	for _, c := range confs() {
		for count := range 700 {
			if count > 40 && count%7 > 1 && count%c.Every > 1 {
				continue
			}
			if l, e := state.Births(c, count); !slices.Equal(l, births(c, count)) || e != api.OK {
				t.Fatal(c, count, l, e)
			}
		}
	}
}

// P28.1: late turns, as planned from earlier ones.
func TestLateBirths(t *testing.T) {
	random := rand.New(rand.NewPCG(28, 1))
	for _, c := range confs() {
		for range 20 {
			count := random.IntN(last) >> random.IntN(40)
			turns := random.IntN(65)
			l, e := state.Births(c, count)
			if e != api.OK {
				t.Fatal(e)
			}
			_, want, e := sched.Plan(c, count, l, turns)
			if e != api.OK {
				t.Fatal(count, l, e)
			}
			after := count
			for range turns {
				after, _ = sched.Next(c, after)
			}
			if after > last {
				continue
			}
			if l, e := state.Births(c, after); !slices.Equal(l, want) || e != api.OK {
				t.Fatal(c, count, turns, l, want)
			}
		}
	}
	// The turn 2 is at 0, and 2^40 - 2 turns come after it, of which the last one is at 2.
	if l, e := state.Births(conf(8, 2, 1, 3), last); !slices.Equal(l, []int{last - 2, last - 1, last}) || e != api.OK {
		t.Error(l, e)
	}
	if l, e := state.Births(conf(8, 2, 256, 2), last); !slices.Equal(l, []int{last - 256, last}) || e != api.OK {
		t.Error(l, e)
	}
}

// P28.1, R2
func TestBirthsErrors(t *testing.T) {
	wrong := []int{-1, -2, last + 1, last + 2, 1 << 41, least, least + 1, most}
	for _, c := range confs() {
		for _, count := range wrong {
			if l, e := state.Births(c, count); len(l) > 0 || e != api.ErrArg {
				t.Error(c, count, l, e)
			}
		}
	}
	for _, c := range wrongConfs() {
		for _, count := range append(wrong, 0, 1, 9, last) {
			if l, e := state.Births(c, count); len(l) > 0 || e != api.ErrConf {
				t.Error(c, count, l, e)
			}
		}
	}
}

// P28.1
func TestRight(t *testing.T) {
	for i, s := range append(states(rand.New(rand.NewPCG(28, 2)), 500), plain(), few(), big()) {
		if !state.Right(s) {
			t.Fatal(i, s)
		}
	}
	for i, f := range []func(s *api.State){
		func(s *api.State) { s.Window[0].X = []int{api.LeastValue, api.MostValue} },
		func(s *api.State) { s.Window[0].Id = 1 },
		func(s *api.State) { s.Window[0].Id = 14 },
		func(s *api.State) { s.Window[5].Id, s.Last = last, last },
		func(s *api.State) { s.Seq, s.Alerts = 0, nil },
		func(s *api.State) { s.Alerts = nil },
		func(s *api.State) { s.Alerts = s.Alerts[2:] },
		func(s *api.State) { s.Seq, s.Alerts = 9, nil },
		func(s *api.State) { s.Seq = 3; renumber(s) },
		func(s *api.State) { s.Alerts[0].Id = 15 },
		func(s *api.State) { s.Alerts[2].Id = 17 },
		func(s *api.State) { s.Conf.Keep = 64 },
		func(s *api.State) { s.Conf.Trees, s.Count = 2, 9 },
		func(s *api.State) {
			s.Forest[0], s.Forest[1].Tree = s.Forest[1], s.Forest[0].Tree
			s.Forest[0].Born = 8
		},
	} {
		s := plain()
		f(&s)
		if !state.Right(s) {
			t.Error(i, s)
		}
	}
}

// renumber makes the alerts those up to Seq.
func renumber(s *api.State) {
	for i := range s.Alerts {
		s.Alerts[i].Seq = s.Seq - len(s.Alerts) + 1 + i
	}
}

// wrongStates is states of which a single condition does not hold.
func wrongStates() []api.State {
	more := api.Seen{Id: 24, X: []int{1, 1}, Scored: true, Score: api.Score{P: 1, Q: 1}}
	l := changedStates(plain(), []func(s *api.State){
		// Conf, and what is there of it.
		func(s *api.State) { s.Conf.Keep = 0 }, func(s *api.State) { s.Conf.Notes = 257 }, func(s *api.State) { s.Conf.Whole = 1 }, func(s *api.State) { s.Conf = api.Conf{} },
		func(s *api.State) { s.Conf.Keep = 2 }, func(s *api.State) { s.Conf.Dim = 1 }, func(s *api.State) { s.Conf.Dim = 3 }, func(s *api.State) { s.Conf.Window = 5 }, func(s *api.State) { s.Conf.Window = 7 }, func(s *api.State) { s.Conf.Window = 9 },
		func(s *api.State) { s.Conf.Trees = 1 }, func(s *api.State) { s.Conf.Trees = 3 }, func(s *api.State) { s.Conf.Sample = 3 }, func(s *api.State) { s.Conf.Sample = 5 }, func(s *api.State) { s.Conf.Every = 1 }, func(s *api.State) { s.Conf.Every = 4 },
		// Count.
		func(s *api.State) { s.Count = 8 }, func(s *api.State) { s.Count = 10 }, func(s *api.State) { s.Count = 5 }, func(s *api.State) { s.Count = 4 }, func(s *api.State) { s.Count = 0 }, func(s *api.State) { s.Count = -1 }, func(s *api.State) { s.Count = least }, func(s *api.State) { s.Count = most }, func(s *api.State) { s.Count = last },
		// Window: how many.
		func(s *api.State) { s.Window = s.Window[1:] }, func(s *api.State) { s.Window = nil }, func(s *api.State) { s.Window = s.Window[:5]; s.Last = 20; s.Alerts[2].Id = 20 },
		func(s *api.State) { s.Window = append(s.Window, more); s.Last = 24 }, func(s *api.State) { s.Window = slices.Insert(s.Window, 0, api.Seen{Id: 2, X: []int{1, 1}}) },
		// Window: which events.
		func(s *api.State) { s.Window[0].X = []int{1} }, func(s *api.State) { s.Window[3].X = []int{1, 2, 3} }, func(s *api.State) { s.Window[5].X = nil }, func(s *api.State) { s.Window[2].X[1] = api.MostValue + 1 }, func(s *api.State) { s.Window[0].Score = api.Score{P: 1, Q: 1} },
		func(s *api.State) { s.Window[5].Score = api.Score{} }, func(s *api.State) { s.Window[5].Score = api.Score{P: 2, Q: 2} },
		func(s *api.State) { s.Window[0].Id = 0 }, func(s *api.State) { s.Window[0].Id = -1 }, func(s *api.State) { s.Window[0].Id = 15 }, func(s *api.State) { s.Window[0].Id = 16 }, func(s *api.State) { s.Window[3].Id = 16 }, func(s *api.State) { s.Window[3].Id = 20 }, func(s *api.State) { s.Window[4].Id = 1 },
		func(s *api.State) { s.Window[5].Id, s.Last = last+1, last+1 }, func(s *api.State) { s.Window[5].Id, s.Last = 20, 20; s.Alerts[2].Id = 20 },
		// Last.
		func(s *api.State) { s.Last = 24 }, func(s *api.State) { s.Last = 22; s.Alerts = nil }, func(s *api.State) { s.Last = 20; s.Alerts = nil }, func(s *api.State) { s.Last = 0; s.Alerts = nil }, func(s *api.State) { s.Last = -1; s.Alerts = nil }, func(s *api.State) { s.Last = most }, func(s *api.State) { s.Last = 11; s.Alerts = nil },
		// Scored.
		func(s *api.State) { s.Window[0].Scored, s.Window[0].Score = true, api.Score{P: 1, Q: 1} },
		func(s *api.State) { s.Window[1].Scored, s.Window[1].Score = false, api.Score{} },
		func(s *api.State) { s.Window[5].Scored, s.Window[5].Score = false, api.Score{} },
		// Forest.
		func(s *api.State) { s.Forest = nil }, func(s *api.State) { s.Forest = s.Forest[:1] }, func(s *api.State) { s.Forest = s.Forest[1:] }, func(s *api.State) { s.Forest = append(s.Forest, s.Forest[0]) }, func(s *api.State) { s.Forest = slices.Repeat(s.Forest, 9) },
		func(s *api.State) { s.Forest[0], s.Forest[1] = s.Forest[1], s.Forest[0] }, func(s *api.State) { s.Forest[0].Born = 6 }, func(s *api.State) { s.Forest[0].Born = 7 }, func(s *api.State) { s.Forest[0].Born = 9 }, func(s *api.State) { s.Forest[1].Born = 4 }, func(s *api.State) { s.Forest[1].Born = 8 }, func(s *api.State) { s.Forest[1].Born = -1 },
		func(s *api.State) { s.Forest[0].Tree.Nodes[0].Size = 3 }, func(s *api.State) { s.Forest[0].Tree.Nodes[0].Size = 5 }, func(s *api.State) { s.Forest[1].Tree.Nodes[0].Size = 5 }, func(s *api.State) { s.Forest[1].Tree.Nodes[0].Size, s.Forest[1].Tree.Nodes[2].Size = 5, 4 }, func(s *api.State) { s.Forest[1].Tree.Nodes[0].Size, s.Forest[1].Tree.Nodes[2].Size = 3, 2 }, func(s *api.State) { s.Forest[0].Tree.Nodes = nil },
		func(s *api.State) { s.Forest[0].Tree.Dim = 1 }, func(s *api.State) { s.Forest[0].Tree = api.Tree{} }, func(s *api.State) {
			for i := range s.Forest {
				s.Forest[i].Tree = api.Tree{Dim: 3, Nodes: []api.Node{{Size: 4}}}
			}
		}, func(s *api.State) { s.Forest[1].Tree.Nodes[0].Cut.At = reach + 1 }, func(s *api.State) { s.Forest[1].Tree.Nodes[2].Size = 0 },
		// Seq.
		func(s *api.State) { s.Seq = 6 }, func(s *api.State) { s.Seq = 4 }, func(s *api.State) { s.Seq = 0 }, func(s *api.State) { s.Seq, s.Alerts = -1, nil }, func(s *api.State) { s.Seq, s.Alerts = 10, nil }, func(s *api.State) { s.Seq, s.Alerts = least, nil }, func(s *api.State) { s.Seq, s.Alerts = most, nil }, func(s *api.State) { s.Seq = 10; renumber(s) }, func(s *api.State) { s.Seq = 2; renumber(s) }, func(s *api.State) { s.Seq = least; renumber(s) },
		// Alerts.
		func(s *api.State) { s.Alerts = s.Alerts[:2] }, func(s *api.State) { s.Alerts = append(s.Alerts[:1:1], s.Alerts[2]) }, func(s *api.State) { s.Alerts[1].Seq = 3 }, func(s *api.State) { s.Alerts[1].Seq = 5 }, func(s *api.State) { s.Alerts[0].Seq = 2 }, func(s *api.State) { s.Alerts[0].Seq = 1 },
		func(s *api.State) { s.Alerts[0].Id = 16 }, func(s *api.State) { s.Alerts[0].Id = 17 }, func(s *api.State) { s.Alerts[0].Id = 0 }, func(s *api.State) { s.Alerts[0].Id = -1 }, func(s *api.State) { s.Alerts[1].Id = 5 }, func(s *api.State) { s.Alerts[1].Id = 23 }, func(s *api.State) { s.Alerts[2].Id = 24 }, func(s *api.State) { s.Alerts[2].Id = most },
		func(s *api.State) { s.Alerts[0].Score = api.Score{P: 3, Q: 1} }, func(s *api.State) { s.Alerts[2].Line = api.Score{} }, func(s *api.State) { s.Alerts[1].Score = api.Score{P: 2, Q: 4} },
		func(s *api.State) {
			s.Alerts = append([]api.Alert{{Seq: 2, Id: 3, Score: api.Score{P: 1, Q: 1}, Line: api.Score{P: 1, Q: 1}}}, s.Alerts...)
		},
		func(s *api.State) { s.Alerts = slices.Repeat(s.Alerts, 30) },
	})
	l = append(l, changedStates(few(), []func(s *api.State){
		func(s *api.State) { s.Seq = 2 }, func(s *api.State) {
			s.Forest = []api.Grown{{Born: 0, Tree: api.Tree{Dim: 2, Nodes: []api.Node{{Size: 4}}}}}
		}, func(s *api.State) { s.Window, s.Last = nil, 0 }, func(s *api.State) { s.Count = 0 }, func(s *api.State) { s.Count, s.Window = 0, nil }, func(s *api.State) { s.Count = -1; s.Window, s.Last = nil, 0 },
		func(s *api.State) { s.Window[0].Scored, s.Window[0].Score = true, api.Score{P: 1, Q: 1} },
		func(s *api.State) {
			s.Alerts = []api.Alert{{Seq: 0, Id: 7, Score: api.Score{P: 1, Q: 1}, Line: api.Score{P: 1, Q: 1}}}
		},
	})...)
	return append(l, changedStates(big(), []func(s *api.State){
		func(s *api.State) { s.Count++ }, func(s *api.State) { s.Count, s.Forest = last+1, nil }, func(s *api.State) { s.Count, s.Seq = last+1, last+1 }, func(s *api.State) { s.Last++ }, func(s *api.State) { s.Seq++ }, func(s *api.State) { s.Seq++; renumber(s) }, func(s *api.State) { s.Count += 256 }, func(s *api.State) { s.Count -= 1 }, func(s *api.State) { s.Seq--; s.Count = 1 },
	})...)
}

// changedStates is s, changed in each of these ways.
func changedStates(s api.State, ways []func(s *api.State)) []api.State {
	var l []api.State
	for _, f := range ways {
		changed := copied(s)
		f(&changed)
		l = append(l, changed)
	}
	return l
}

// P28.1, P28.2, R2: what is not valid.
func TestWrong(t *testing.T) {
	for i, s := range append(wrongStates(), api.State{}) {
		before := copied(s)
		if state.Right(s) {
			t.Error(i, s)
		}
		if b, e := state.Put(s); len(b) > 0 || e != api.ErrState {
			t.Error(i, b, e)
		}
		if line, ok := state.Line(s); line != (api.Score{}) || ok {
			t.Error(i, line, ok)
		}
		if !same(s, before) {
			t.Error(i, "what was handed in was changed")
		}
	}
}

// P28.1
func TestSame(t *testing.T) {
	all := append(wrongStates(), plain(), few(), big(), api.State{}, api.State{Count: 1}, api.State{Last: 1}, api.State{Seq: 1}, api.State{Window: make([]api.Seen, 1)}, api.State{Forest: make([]api.Grown, 1)}, api.State{Alerts: make([]api.Alert, 1)}, api.State{Window: []api.Seen{{Scored: true}}}, api.State{Window: []api.Seen{{Score: api.Score{P: 1}}}}, api.State{Alerts: []api.Alert{{Line: api.Score{P: 1}}}}, api.State{Alerts: []api.Alert{{Score: api.Score{P: 1}}}}, api.State{Conf: api.Conf{Notes: 1}})
	for i, a := range all {
		for k, b := range all {
			if got := state.Same(a, copied(b)); got != same(a, b) || i == k && !got {
				t.Fatal(i, k, got)
			}
		}
	}
	a, b := api.State{Window: []api.Seen{{X: []int{}}}, Forest: []api.Grown{}, Alerts: []api.Alert{}}, api.State{Window: []api.Seen{{}}}
	if !state.Same(a, b) || !state.Same(b, a) {
		t.Error("nil is not as an empty list")
	}
}

// P28.1
func TestLine(t *testing.T) {
	// The scores are 3, 2, 3/2, 1, 0: for 1 of 4 the rank is 4.
	if line, ok := state.Line(plain()); line != (api.Score{P: 1, Q: 1}) || !ok {
		t.Error(line, ok)
	}
	lined, unlined := 0, 0
	for _, s := range append(states(rand.New(rand.NewPCG(28, 3)), 600), big(), few()) {
		var l []api.Score
		for _, e := range s.Window {
			if e.Scored {
				l = append(l, e.Score)
			}
		}
		got, ok := state.Line(s)
		if len(l) < s.Conf.Sample {
			unlined++
			if got != (api.Score{}) || ok {
				t.Fatal(got, ok)
			}
			continue
		}
		lined++
		if want, _ := quant.Line(l, s.Conf.Part, s.Conf.Whole); got != want || !ok {
			t.Fatal(got, want, ok)
		}
	}
	if lined < 100 || unlined < 100 {
		t.Error("seldom tested:", lined, unlined)
	}
	random := rand.New(rand.NewPCG(28, 4))
	for _, c := range []api.Conf{conf(8, 5, 3, 2), conf(5, 5, 3, 2), conf(20, 5, 1, 1)} {
		// The first turn's own event has no score: Sample of them are there Sample events later.
		for count := range 30 {
			_, ok := state.Line(made(random, c, count))
			if ok != (count >= firstTurn(c)+5) {
				t.Error(c, count, ok)
			}
		}
	}
}

// told is the bytes of s, valid or not, by the words; with is what comes after it.
func told(s api.State, with ...byte) []byte {
	b := item.PutConf(nil, s.Conf)
	b = bin.U(bin.U(bin.U(b, uint64(s.Count)), uint64(s.Last)), uint64(s.Seq))
	for _, e := range s.Window {
		b = item.PutSeen(b, e, s.Conf.Dim)
	}
	b = wood.PutForest(b, s.Forest)
	b = bin.U(b, uint64(len(s.Alerts)))
	for _, a := range s.Alerts {
		b = item.PutAlert(b, a)
	}
	return append(b, with...)
}

// P28.2, P28.3, P28.4
func TestPutAndGet(t *testing.T) {
	b, e := state.Put(few())
	if want := []byte{2, 6, 2, 4, 2, 2, 1, 4, 4, 3, 9, 1, 7, 0, 7, 2, 4, 0, 0, 0}; !bytes.Equal(b, want) || e != api.OK {
		t.Error(b, e)
	}
	for i, s := range append(states(rand.New(rand.NewPCG(28, 5)), 400), plain(), few(), big()) {
		before := copied(s)
		b, e := state.Put(s)
		if !bytes.Equal(b, told(s)) || e != api.OK || len(b) > state.Most(s.Conf) {
			t.Fatal(i, e, len(b), state.Most(s.Conf))
		}
		kept := append(slices.Clone(b), 1, 2, 3)
		got, e := state.Get(kept[:len(b)])
		if !same(got, s) || e != api.OK {
			t.Fatal(i, e)
		}
		if !bytes.Equal(kept, append(slices.Clone(b), 1, 2, 3)) {
			t.Fatal("what was handed in was changed")
		}
		again, e := state.Put(got)
		if !bytes.Equal(again, b) || e != api.OK {
			t.Fatal(i, e)
		}
		if !same(s, before) {
			t.Fatal(i, "what was handed in was changed")
		}
	}
	if b, _ := state.Put(big()); len(b) < state.Most(big().Conf)-500 {
		t.Error("the greatest state is not near the bound:", len(b), state.Most(big().Conf))
	}
}

// fails expects an error of Get.
func fails(t *testing.T, b []byte, want api.Errno) {
	t.Helper()
	if s, e := state.Get(b); !same(s, api.State{}) || e != want {
		t.Errorf("%x: %v, %d, not %d", b, s, e, want)
	}
}

// P28.2, R2: what can't be read.
func TestGetErrors(t *testing.T) {
	random := rand.New(rand.NewPCG(28, 6))
	for _, s := range append(states(random, 24), plain(), few()) {
		b := told(s)
		for n := range b {
			fails(t, b[:n], api.ErrShort)
		}
		for _, more := range [][]byte{{0}, {1}, {255}, make([]byte, 1000)} {
			fails(t, slices.Concat(b, more), api.ErrForm)
		}
	}
	fails(t, nil, api.ErrShort)
	head := item.PutConf(nil, few().Conf)
	u := func(n uint64) []byte { return bin.U(nil, n) }
	for _, c := range []struct {
		b    [][]byte
		want api.Errno
	}{
		{[][]byte{{0}, head[1:]}, api.ErrForm},
		{[][]byte{{0}}, api.ErrShort},
		{[][]byte{{9}, head[1:], {1, 7, 0, 7, 2, 4, 0, 0, 0}}, api.ErrForm},
		{[][]byte{{248}}, api.ErrForm},
		{[][]byte{head, u(last + 1), {0, 0, 0, 0}}, api.ErrForm},
		{[][]byte{head, u(1 << 63), {0, 0, 0, 0}}, api.ErrForm},
		{[][]byte{head, {240, 5}, {0, 0, 0, 0}}, api.ErrForm},
		{[][]byte{head, {0}, u(last + 1), {0, 0, 0}}, api.ErrForm},
		{[][]byte{head, {0, 0}, u(last + 1), {0, 0}}, api.ErrForm},
		{[][]byte{head, u(last), u(last), u(last)}, api.ErrShort},
		{[][]byte{head, u(last), u(last), u(last), {0}}, api.ErrShort},  // an event that has Id 0, if it ended
		{[][]byte{head, {1, 7, 0}, {7, 2, 4, 2}, {0, 0}}, api.ErrForm},  // neither scored nor not
		{[][]byte{head, {1, 7, 0}, {7, 2, 4, 0}, {17}}, api.ErrForm},    // too many trees
		{[][]byte{head, {1, 7, 0}, {7, 2, 4, 0, 0}, {65}}, api.ErrForm}, // too many alerts
		{[][]byte{head, {1, 7, 0}, {7, 2, 4, 0, 0}, {64}}, api.ErrShort},
		{[][]byte{head, {1, 7, 0}, {7, 2, 4, 0, 0}, {1, 1, 7, 2, 2}}, api.ErrForm}, // no score
		{[][]byte{head, {1, 7, 0}, {7, 2, 4, 0, 0}, {1, 1, 7, 2, 1, 1, 1}}, api.ErrForm},
		{[][]byte{head, {1, 7, 0}, {7, 2, 4, 0, 0}, {1, 1, 7, 1, 1, 1, 1}}, api.ErrState}, // Seq is 0
		{[][]byte{head, {0, 0, 0, 0, 0}}, api.OK},
		{[][]byte{head, {0, 0, 0, 0, 0}, {0}}, api.ErrForm},
		{[][]byte{head, {0, 0, 1, 0, 0}}, api.ErrState},
		{[][]byte{head, {0, 1, 0, 0, 0}}, api.ErrState},
		{[][]byte{head, {0, 1, 0, 0, 0, 0}}, api.ErrForm},
	} {
		b := slices.Concat(c.b...)
		if c.want == api.OK {
			if s, e := state.Get(b); !same(s, api.State{Conf: few().Conf}) || e != api.OK {
				t.Error(s, e)
			}
			continue
		}
		fails(t, b, c.want)
	}
}

// P28.2: bytes of what is not valid, of which all parts are.
func TestGetStateErrors(t *testing.T) {
	count := 0
	for i, s := range wrongStates() {
		b := told(s)
		// Only what is read as it was written: neither a part that is not valid, nor another number of events.
		if !whole(s) {
			continue
		}
		count++
		if got, e := state.Get(b); !same(got, api.State{}) || e != api.ErrState {
			t.Error(i, got, e)
		}
		fails(t, append(b, 0), api.ErrForm)
	}
	if count < 40 {
		t.Error("seldom tested:", count)
	}
}

// whole reports whether the bytes of s are read number by number.
func whole(s api.State) bool {
	ok := sched.Right(s.Conf) && s.Count >= 0 && s.Count <= last && s.Last >= 0 && s.Last <= last && s.Seq >= 0 && s.Seq <= last && len(s.Window) == min(s.Count, s.Conf.Window) && len(s.Alerts) <= 64
	for _, e := range s.Window {
		ok = ok && item.RightSeen(e, s.Conf.Dim)
	}
	for _, a := range s.Alerts {
		ok = ok && item.RightAlert(a)
	}
	return ok && len(wood.PutForest(nil, s.Forest)) > 0
}

// P28.4, R1: changed bytes are no state, or those of what was read.
func TestGetChanged(t *testing.T) {
	random := rand.New(rand.NewPCG(28, 7))
	right := 0
	for _, s := range append(states(random, 100), plain(), few(), big()) {
		b := told(s)
		for range 50 {
			c := slices.Clone(b)
			for range 1 + random.IntN(3) {
				c[random.IntN(len(c))] = []byte{byte(random.Uint32()), byte(random.IntN(9))}[random.IntN(2)]
			}
			got, e := state.Get(c)
			if e != api.OK {
				if !same(got, api.State{}) {
					t.Fatal(got, e)
				}
				continue
			}
			again, e := state.Put(got)
			if !bytes.Equal(again, c) || e != api.OK || len(c) > state.Most(got.Conf) {
				t.Fatal(got, e)
			}
			right++
		}
	}
	if right < 100 {
		t.Error("seldom tested:", right)
	}
	for range 20000 {
		b := make([]byte, random.IntN(60))
		for i := range b {
			b[i] = byte(random.IntN(6))
		}
		if s, e := state.Get(b); e == api.OK {
			if again, _ := state.Put(s); !bytes.Equal(again, b) {
				t.Fatal(s)
			}
		}
	}
}

// P28.3
func TestMost(t *testing.T) {
	for _, c := range append(confs(), few().Conf, big().Conf) {
		if got, want := state.Most(c), 56+c.Window*(15+5*c.Dim)+c.Trees*(8+c.Sample+(c.Sample-1)*(7+c.Dim))+c.Keep*28; got != want {
			t.Error(c, got, want)
		}
	}
	if got := state.Most(conf(6, 4, 2, 2)); got != 56+6*25+2*(12+3*9)+3*28 {
		t.Error(got)
	}
	for _, c := range wrongConfs() {
		if got := state.Most(c); got != 0 {
			t.Error(c, got)
		}
	}
}

// R3: results are new memory.
func TestMemory(t *testing.T) {
	for _, s := range append(states(rand.New(rand.NewPCG(28, 8)), 40), plain(), big()) {
		before, b := copied(s), told(s)
		got, _ := state.Get(b)
		clear(b)
		if !same(got, before) {
			t.Fatal("what was read is still that of the bytes")
		}
		put, _ := state.Put(s)
		again := slices.Clone(put)
		clear(put[:cap(put)])
		if second, _ := state.Put(s); !bytes.Equal(second, again) || !same(s, before) {
			t.Fatal("what was put is still that of the state")
		}
		first, _ := state.Births(s.Conf, s.Count)
		clear(first)
		if !same(s, before) {
			t.Fatal("births are those of the state")
		}
		// No two lists of what was read share memory.
		other, _ := state.Get(again)
		for i := range got.Window {
			for k := range got.Window[i].X {
				got.Window[i].X[k] = 99
			}
			_ = append(got.Window[i].X, 98)
			if i+1 < len(got.Window) && !slices.Equal(got.Window[i+1].X, other.Window[i+1].X) {
				t.Fatal("two events share memory")
			}
		}
		spoil(got)
		if !same(other, before) {
			t.Fatal("two states share memory")
		}
	}
}
