package step_test

import (
	"math/rand/v2"
	"slices"
	"testing"

	"copse/api"
	"copse/state"
	"copse/step"
)

// copied is s in memory of its own.
func copied(s api.State) api.State {
	s.Window, s.Forest, s.Alerts = slices.Clone(s.Window), slices.Clone(s.Forest), slices.Clone(s.Alerts)
	for i := range s.Window {
		s.Window[i].X = slices.Clone(s.Window[i].X)
	}
	for i := range s.Forest {
		nodes := slices.Clone(s.Forest[i].Tree.Nodes)
		for k := range nodes {
			nodes[k].Cut.Coef = slices.Clone(nodes[k].Cut.Coef)
		}
		s.Forest[i].Tree.Nodes = nodes
	}
	return s
}

// roomy is s with room behind each of its lists.
func roomy(s api.State) api.State {
	s.Window, s.Forest, s.Alerts = slices.Grow(s.Window, 9), slices.Grow(s.Forest, 9), slices.Grow(s.Alerts, 9)
	return s
}

// behind is whether the room behind the lists of s is as it was made.
func behind(s api.State) bool {
	for _, seen := range s.Window[len(s.Window):cap(s.Window)] {
		if seen.Id != 0 || len(seen.X) > 0 {
			return false
		}
	}
	for _, g := range s.Forest[len(s.Forest):cap(s.Forest)] {
		if g.Born != 0 || len(g.Tree.Nodes) > 0 {
			return false
		}
	}
	for _, a := range s.Alerts[len(s.Alerts):cap(s.Alerts)] {
		if a != (api.Alert{}) {
			return false
		}
	}
	return true
}

// spoil changes all that is in the memory of s and of told.
func spoil(s api.State, told api.Told) {
	for _, e := range s.Window {
		for i := range e.X {
			e.X[i] = 99
		}
	}
	for _, g := range s.Forest {
		for _, n := range g.Tree.Nodes {
			for i := range n.Cut.Coef {
				n.Cut.Coef[i] = 99
			}
		}
		clear(g.Tree.Nodes)
	}
	clear(s.Window[:cap(s.Window)])
	clear(s.Forest[:cap(s.Forest)])
	clear(s.Alerts[:cap(s.Alerts)])
	clear(told.Alerts[:cap(told.Alerts)])
	clear(told.Why[:cap(told.Why)])
}

// R3: what is passed is not changed, and what is returned is new.
func TestMemory(t *testing.T) {
	random := rand.New(rand.NewPCG(29, 5))
	for _, c := range confs()[:60] {
		s := fresh(t, c)
		for range 3*c.Sample + 40 {
			given, a, l := roomy(copied(s)), asks(random, s), some(random, c)
			x, before := slices.Clone(a.X), slices.Clone(l)
			next, told, _, e := step.Do(given, a, l)
			if !state.Same(given, s) || !behind(given) || !slices.Equal(a.X, x) || !slices.Equal(l, before) {
				t.Fatal("changed by", a, e)
			}
			if e != api.OK {
				continue
			}
			want := copied(next)
			for i := range a.X {
				a.X[i] = 77
			}
			spoil(api.State{}, told)
			if !state.Same(next, want) {
				t.Fatal("shared with the request, or the answer", a)
			}
			spoil(next, told)
			if !state.Same(given, s) {
				t.Fatal("shared with the state", a)
			}
			s = want
		}
	}
}

// R3: an answer's lists are not those of a state.
func TestAnswersMemory(t *testing.T) {
	s := waiting(t)
	want := copied(s)
	for _, a := range []api.Ask{{Kind: api.AskAlerts, N: 3, M: 9}, {Kind: api.AskWhy, X: []int{4}}} {
		next, told, _, e := step.Do(s, a, nil)
		if e != api.OK || len(told.Alerts)+len(told.Why) == 0 {
			t.Fatal(a, told, e)
		}
		spoil(api.State{}, told)
		if !state.Same(s, want) || !state.Same(next, want) {
			t.Fatal("shared with the answer", a)
		}
	}
	// Behind the alerts of an answer there is no room that is the state's.
	_, told, _, _ := step.Do(s, api.Ask{Kind: api.AskAlerts, N: 3, M: 1}, nil)
	if _ = append(told.Alerts, api.Alert{}); !state.Same(s, want) {
		t.Error(s.Alerts)
	}
}
