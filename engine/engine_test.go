package engine_test

import (
	"math/rand/v2"
	"slices"
	"testing"

	"copse/api"
	"copse/engine"
	"copse/state"
	"copse/step"
)

// small is a valid configuration with few of everything.
func small() api.Conf {
	return api.Conf{Dim: 1, Window: 3, Trees: 2, Sample: 2, Every: 2, Kind: api.KindAxis, Part: 1, Whole: 2, Tries: 1, Keep: 2, Notes: 1}
}

func put(id int, x ...int) api.Ask {
	return api.Ask{Kind: api.AskPut, Id: id, X: x}
}

// told reports whether a and b are the same answer.
func told(a, b api.Told) bool {
	return a.Kind == b.Kind && a.Score == b.Score && a.Scored == b.Scored && a.Level == b.Level && a.Over == b.Over && a.Seq == b.Seq && a.N == b.N &&
		slices.Equal(a.Alerts, b.Alerts) && a.Stats == b.Stats && slices.Equal(a.Why, b.Why)
}

// fresh is an engine before all events.
func fresh(t *testing.T, c api.Conf) *engine.Engine {
	t.Helper()
	g, e := engine.New(c)
	if e != api.OK || g == nil {
		t.Fatal(c, e)
	}
	return g
}

// opened is an engine with the state s.
func opened(t *testing.T, s api.State) *engine.Engine {
	t.Helper()
	g, e := engine.Open(s)
	if e != api.OK || g == nil {
		t.Fatal(s, e)
	}
	return g
}

// has fails if g does not have the state s.
func has(t *testing.T, g *engine.Engine, s api.State) {
	t.Helper()
	if got := g.State(); !state.Same(got, s) {
		t.Fatal(got, "not", s)
	}
	_, stats, _, e := step.Do(s, api.Ask{Kind: api.AskStats}, nil)
	if got := g.Stats(); e != api.OK || got != stats.Stats {
		t.Fatal(got, "not", stats.Stats, e)
	}
}

// tries makes a trial, which must be like the step from s that it leaves as it was; it returns the state after the step, and whether that must be held.
func tries(t *testing.T, g *engine.Engine, s api.State, a api.Ask, l []uint64) (api.State, bool) {
	t.Helper()
	next, want, wantUsed, wantErr := step.Do(s, a, l)
	if got, used, e := g.Try(a, l); !told(got, want) || used != wantUsed || e != wantErr {
		t.Fatal(s, a, got, used, e, "not", want, wantUsed, wantErr)
	}
	return next, wantErr == api.OK && step.Changes(a.Kind)
}

// P30.1, P30.2: the chapter's example.
func TestExample(t *testing.T) {
	g := fresh(t, small())
	if got, used, e := g.Try(put(1, 5), nil); !told(got, api.Told{Kind: api.AskPut}) || used != 0 || e != api.OK {
		t.Error(got, used, e)
	}
	if st := g.Stats(); st != (api.Stats{}) {
		t.Error(st)
	}
	if !g.Commit() {
		t.Error("nothing was held")
	}
	if st := g.Stats(); st != (api.Stats{Count: 1, Window: 1}) {
		t.Error(st)
	}
	if g.Commit() {
		t.Error("held again")
	}
	has(t, g, api.State{Conf: small(), Count: 1, Last: 1, Window: []api.Seen{{Id: 1, X: []int{5}}}})
}

// P30.1
func TestNew(t *testing.T) {
	for _, c := range confs() {
		has(t, fresh(t, c), api.State{Conf: c})
	}
	for i, change := range []func(c *api.Conf){
		func(c *api.Conf) { *c = api.Conf{} }, func(c *api.Conf) { c.Dim = 0 }, func(c *api.Conf) { c.Window = 257 }, func(c *api.Conf) { c.Trees = 17 }, func(c *api.Conf) { c.Sample = 4 }, func(c *api.Conf) { c.Every = 0 }, func(c *api.Conf) { c.Kind = 3 }, func(c *api.Conf) { c.Part = 2 }, func(c *api.Conf) { c.Tries = 65 }, func(c *api.Conf) { c.Keep = -1 }, func(c *api.Conf) { c.Notes = 0 },
	} {
		c := small()
		change(&c)
		if g, e := engine.New(c); g != nil || e != api.ErrConf {
			t.Error(i, g, e)
		}
	}
}

// P30.1
func TestOpen(t *testing.T) {
	random := rand.New(rand.NewPCG(30, 1))
	for _, c := range confs() {
		for _, n := range []int{1, c.Sample, 3 * c.Sample} {
			s := run(t, random, c, n)
			g := opened(t, s)
			has(t, g, s)
			if g.Commit() {
				t.Error("something is held")
			}
			has(t, opened(t, g.State()), s)
		}
	}
	for i, change := range []func(s *api.State){
		func(s *api.State) { *s = api.State{} }, func(s *api.State) { s.Conf.Tries = 0 }, func(s *api.State) { s.Count++ }, func(s *api.State) { s.Last = 0 }, func(s *api.State) { s.Seq = s.Count + 1 }, func(s *api.State) { s.Window[0].X = nil }, func(s *api.State) { s.Window[2].Score.Q = 0 }, func(s *api.State) { s.Window = nil }, func(s *api.State) { s.Forest[1].Born++ },
		func(s *api.State) { s.Forest[1].Tree.Dim = 2 }, func(s *api.State) { s.Forest = s.Forest[:1] }, func(s *api.State) { s.Alerts = make([]api.Alert, 3) },
	} {
		s := run(t, random, small(), 9)
		change(&s)
		if g, e := engine.Open(s); g != nil || e != api.ErrState {
			t.Error(i, g, e)
		}
	}
}

// P30.2
func TestNil(t *testing.T) {
	var g *engine.Engine
	for _, a := range []api.Ask{{}, put(1, 5), put(1), {Kind: api.AskScore}, {Kind: api.AskAlerts}, {Kind: api.AskAck}, {Kind: api.AskStats}, {Kind: api.AskSnap}, {Kind: api.AskWhy}, {Kind: 99}} {
		if got, used, e := g.Try(a, []uint64{1}); !told(got, api.Told{}) || used != 0 || e != api.ErrShut {
			t.Error(got, used, e)
		}
		if got, used, e := g.Do(a, []uint64{1}); !told(got, api.Told{}) || used != 0 || e != api.ErrShut {
			t.Error(got, used, e)
		}
	}
	if g.Commit() || !state.Same(g.State(), api.State{}) || g.Stats() != (api.Stats{}) {
		t.Error(g.State(), g.Stats())
	}
}

// ready is an engine, and its state, whose next event is over the line and a turn; one alert waits.
func ready(t *testing.T) (*engine.Engine, api.State) {
	t.Helper()
	of := api.Score{P: api.MaxSum, Q: 1}
	s := run(t, rand.New(rand.NewPCG(30, 2)), small(), 9)
	for i := range s.Window {
		s.Window[i].Score = of
	}
	s.Seq, s.Alerts = 4, []api.Alert{{Seq: 4, Id: s.Last, Score: of, Line: of}}
	return opened(t, s), s
}

// P30.1: what is held, and when.
func TestHeld(t *testing.T) {
	g, s := ready(t)
	over, many := put(s.Last+1, 44), []uint64{0, 0, 0, 0, 0}
	next, holds := tries(t, g, s, over, many)
	if !holds || next.Seq != 5 || next.Forest[0].Born != 10 || next.Window[2].Id != over.Id {
		t.Fatal(next, holds)
	}
	has(t, g, s)
	if !g.Commit() {
		t.Fatal("nothing is held")
	}
	has(t, g, next)
	if g.Commit() {
		t.Fatal("still held")
	}
	has(t, g, next)

	// The next trial counts, whatever it is.
	ack := api.Ask{Kind: api.AskAck, N: 4}
	for _, a := range []api.Ask{
		{Kind: api.AskScore, X: []int{3}}, {Kind: api.AskAlerts, N: 1, M: 3}, {Kind: api.AskStats}, {Kind: api.AskSnap}, {Kind: api.AskWhy, X: []int{3}},
		{}, {Kind: 8}, {Kind: api.AskScore}, put(s.Last, 3), put(s.Last+1, 3, 3), put(s.Last+1, 3), {Kind: api.AskAck, N: 5}, {Kind: api.AskAck, M: 1},
	} {
		for _, first := range []api.Ask{over, ack} {
			g, s := ready(t)
			if _, holds := tries(t, g, s, first, many); !holds {
				t.Fatal("not held", first)
			}
			// For the tree that is due there are no draws.
			if _, holds := tries(t, g, s, a, nil); holds || g.Commit() {
				t.Fatal("held", a)
			}
			has(t, g, s)
		}
	}
	for _, pair := range [][2]api.Ask{{over, ack}, {ack, over}, {over, put(s.Last+2, 5)}, {over, over}, {ack, ack}, {ack, {Kind: api.AskAck}}, {over, {Kind: api.AskAck, N: 3}}} {
		g, s := ready(t)
		tries(t, g, s, pair[0], many)
		next, holds := tries(t, g, s, pair[1], many)
		has(t, g, s)
		if !holds || !g.Commit() {
			t.Fatal("not held", pair)
		}
		has(t, g, next)
	}
}

// P30.1: AskAck is held also if it changes nothing.
func TestHeldWithoutChange(t *testing.T) {
	g := fresh(t, small())
	for range 3 {
		if got, used, e := g.Try(api.Ask{Kind: api.AskAck}, nil); !told(got, api.Told{Kind: api.AskAck}) || used != 0 || e != api.OK {
			t.Error(got, used, e)
		}
		if !g.Commit() || g.Commit() {
			t.Error("not held once")
		}
		has(t, g, api.State{Conf: small()})
	}
}

// P30.1: Do is Try and Commit; an older trial is held no more.
func TestDo(t *testing.T) {
	g, s := ready(t)
	over, many := put(s.Last+1, 44), []uint64{0, 0, 0, 0, 0}
	g.Try(over, many)
	if got, used, e := g.Do(api.Ask{Kind: api.AskStats}, nil); got.Stats != g.Stats() || used != 0 || e != api.OK || g.Commit() {
		t.Error(got, used, e)
	}
	has(t, g, s)
	g.Try(over, many)
	if got, used, e := g.Do(over, many[:1]); !told(got, api.Told{}) || used != 0 || e != api.ErrDraws || g.Commit() {
		t.Error(got, used, e)
	}
	has(t, g, s)
	g.Try(api.Ask{Kind: api.AskAck, N: 4}, nil)
	next, want, wantUsed, _ := step.Do(s, over, many)
	if got, used, e := g.Do(over, many); !told(got, want) || used != wantUsed || e != api.OK || g.Commit() {
		t.Error(got, used, e)
	}
	has(t, g, next)
}

// R3: what is passed is not kept, nor changed, and what is returned is new.
func TestMemory(t *testing.T) {
	g, s := ready(t)
	want := g.State()
	spoil(s, api.Told{})
	has(t, g, want)
	spoil(g.State(), api.Told{})
	has(t, g, want)
	x, l := []int{44}, []uint64{0, 0, 0, 0, 0}
	next, _, _, _ := step.Do(want, put(want.Last+1, 44), l)
	if _, _, e := g.Try(put(want.Last+1, x...), l); e != api.OK {
		t.Fatal(e)
	}
	if x[0] != 44 || !slices.Equal(l, make([]uint64, 5)) {
		t.Error("what was passed is changed", x, l)
	}
	x[0], l[3] = 99, 99
	g.Commit()
	has(t, g, next)
	x[0] = 98
	has(t, g, next)
	for _, a := range []api.Ask{{Kind: api.AskAlerts, M: 9}, {Kind: api.AskAlerts, M: 1}, {Kind: api.AskWhy, X: []int{3}}} {
		got, _, _ := g.Do(a, nil)
		if len(got.Alerts)+len(got.Why) == 0 {
			t.Error(a, got)
		}
		spoil(api.State{}, got)
		has(t, g, next)
	}
	if got, _, _ := g.Do(api.Ask{Kind: api.AskAlerts, N: 5, M: 1}, nil); !slices.Equal(got.Alerts, next.Alerts[1:]) {
		t.Error(got)
	}
	// An answer remains as it was when alerts go and come.
	got, _, _ := g.Do(api.Ask{Kind: api.AskAlerts, M: 9}, nil)
	g.Do(api.Ask{Kind: api.AskAck, N: 4}, nil)
	g.Do(put(next.Last+1, 44), l)
	if !slices.Equal(got.Alerts, next.Alerts) {
		t.Error(got, next.Alerts)
	}
}

// spoil changes all that is in the memory of s and of told.
func spoil(s api.State, told api.Told) {
	for _, e := range s.Window {
		for i := range e.X {
			e.X[i] = 99
		}
	}
	for _, g := range s.Forest {
		for _, n := range g.Tree.Nodes {
			for i := range n.Cut.Coef {
				n.Cut.Coef[i] = 3
			}
		}
		clear(g.Tree.Nodes)
	}
	clear(s.Window[:cap(s.Window)])
	clear(s.Forest[:cap(s.Forest)])
	clear(s.Alerts[:cap(s.Alerts)])
	clear(told.Alerts[:cap(told.Alerts)])
	clear(told.Why[:cap(told.Why)])
}
