package rule_test

import (
	"slices"
	"testing"

	"copse/api"
	"copse/rule"
)

// alerts is the alerts with the Seqs 3, 4 and 5.
func alerts() []api.Alert {
	return []api.Alert{{Seq: 3}, {Seq: 4}, {Seq: 5}}
}

// P29.1: which alerts an AskAck and an AskAlerts mean.
func TestAlerts(t *testing.T) {
	for seq, want := range map[int]int{-1: 0, 0: 0, 2: 0, 3: 1, 4: 2, 5: 3, 6: 3, api.MaxId: 3} {
		if n := rule.UpTo(alerts(), seq); n != want {
			t.Error(seq, n)
		}
		if n := rule.UpTo(nil, seq); n != 0 {
			t.Error(seq, n)
		}
	}
	for seq, from := range map[int]int{0: 0, 3: 0, 4: 1, 5: 2, 6: 3, api.MaxId: 3} {
		for most := range 5 {
			l := alerts()
			got := rule.From(l, seq, most)
			if !slices.Equal(got, alerts()[from:min(3, from+most)]) {
				t.Error(seq, most, got)
			}
			clear(got[:cap(got)])
			if !slices.Equal(l, alerts()) {
				t.Error("shared", seq, most)
			}
		}
	}
}

// P29.1: the errors of a request in their order.
func TestMay(t *testing.T) {
	full := rule.Stand{Conf: api.Conf{Dim: 2, Keep: 3}, Last: 7, Stats: api.Stats{Waiting: 3, Count: api.MaxCount}}
	for i, a := range []struct {
		ask  api.Ask
		want api.Errno
	}{{api.Ask{Id: 7, X: []int{1}}, api.ErrVec}, {api.Ask{Id: 7, X: []int{1, 2}}, api.ErrOnce}, {api.Ask{Id: 8, X: []int{1, 2}}, api.ErrBusy}} {
		if e := full.MayPut(a.ask); e != a.want {
			t.Error(i, e)
		}
	}
	for _, x := range [][]int{nil, {1}, {1, 2, 3}} {
		if e := full.MayScore(x); e != api.ErrVec {
			t.Error(x, e)
		}
	}
	if e := full.MayScore([]int{1, 2}); e != api.ErrNone {
		t.Error(e)
	}
	full.Stats.Waiting, full.Stats.Trees = 2, 1
	if e := full.MayPut(api.Ask{Id: 8, X: []int{1, 2}}); e != api.ErrLong {
		t.Error(e)
	}
	full.Stats.Count--
	if e := full.MayPut(api.Ask{Id: 8, X: []int{1, 2}}); e != api.OK {
		t.Error(e)
	}
	if e := full.MayScore([]int{1, 2}); e != api.OK {
		t.Error(e)
	}
}

// P29.1: without a line nothing is over it; with one, what is equal to it is.
func TestJudge(t *testing.T) {
	of := api.Score{P: api.Unit, Q: 1}
	s := rule.Stand{Conf: api.Conf{Sample: 2}, Last: 3, Stats: api.Stats{Seq: 8}}
	for _, line := range []api.Score{{}, of, {P: 2*api.Unit + 1, Q: 2}, {P: 2*api.Unit - 1, Q: 2}} {
		s.Stats.Line, s.Stats.Lined = line, line.Q > 0
		over := line.Q > 0 && line.P >= line.Q*api.Unit
		got, e := s.Judge(of)
		if got.Kind != 0 || got.Score != of || !got.Scored || got.Level != 500 || got.Over != over || got.Seq != 0 || e != api.OK {
			t.Error(line, got, e)
		}
	}
	if a := s.Alert(5, of); a != (api.Alert{Seq: 9, Id: 5, Score: of, Line: s.Stats.Line}) {
		t.Error(a)
	}
}
