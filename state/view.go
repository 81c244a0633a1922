package state

import (
	"slices"

	"copse/api"
	"copse/forest"
	"copse/item"
	"copse/sched"
)

// view is a state with what it must be like.
type view struct {
	api.State
}

// conditions is what a state must meet, each one where those before it are met.
func conditions() []func(v view) bool {
	return []func(v view) bool{
		view.configured,
		view.counted,
		view.filled,
		view.ordered,
		view.ended,
		view.scored,
		view.wooded,
		view.grown,
		view.numbered,
		view.kept,
		view.alerted,
	}
}

// right reports whether the state is valid.
func (v view) right() bool {
	for _, holds := range conditions() {
		if !holds(v) {
			return false
		}
	}
	return true
}

// configured reports whether the configuration is valid.
func (v view) configured() bool {
	return sched.Right(v.Conf)
}

// counted reports whether so many events may have been taken.
func (v view) counted() bool {
	return v.Count >= 0 && v.Count <= api.MaxCount
}

// windowSize is the number of events of the window.
func (v view) windowSize() int {
	return min(v.Count, v.Conf.Window)
}

// filled reports whether the window has its events.
func (v view) filled() bool {
	return len(v.Window) == v.windowSize()
}

// ordered reports whether the events are valid, and their Ids ascend.
func (v view) ordered() bool {
	before := 0
	for _, s := range v.Window {
		if !item.RightSeen(s, v.Conf.Dim) || s.Id <= before {
			return false
		}
		before = s.Id
	}
	return true
}

// ended reports whether the last event is the one of which the state knows.
func (v view) ended() bool {
	if len(v.Window) == 0 {
		return v.Last == 0
	}
	return v.Last == v.Window[len(v.Window)-1].Id
}

// scored reports whether those events have scores that came after the first turn.
func (v view) scored() bool {
	turn, _ := sched.Next(v.Conf, 0)
	n := v.Count - len(v.Window)
	for _, s := range v.Window {
		n++
		if s.Scored != (n > turn) {
			return false
		}
	}
	return true
}

// wooded reports whether the forest is one of the configuration's dimension and points.
func (v view) wooded() bool {
	if !forest.Is(v.Forest) {
		return false
	}
	for _, g := range v.Forest {
		if g.Tree.Dim != v.Conf.Dim || g.Tree.Nodes[0].Size != v.Conf.Sample {
			return false
		}
	}
	return true
}

// grown reports whether the trees were grown when they must have been.
func (v view) grown() bool {
	births, _ := Births(v.Conf, v.Count)
	return slices.EqualFunc(v.Forest, births, func(g api.Grown, born int) bool { return g.Born == born })
}

// numbered reports whether there may have been so many alerts.
func (v view) numbered() bool {
	return v.Seq >= 0 && v.Seq <= v.Count
}

// kept reports whether no more alerts wait than may wait.
func (v view) kept() bool {
	return len(v.Alerts) <= min(v.Conf.Keep, v.Seq)
}

// alerted reports whether the alerts are valid, the last ones of all, and their Ids ascend, up to the last event's.
func (v view) alerted() bool {
	before, seq := 0, v.Seq-len(v.Alerts)
	for _, a := range v.Alerts {
		seq++
		if !item.RightAlert(a) || a.Seq != seq || a.Id <= before || a.Id > v.Last {
			return false
		}
		before = a.Id
	}
	return true
}

// scores is the scores of the events of the window that have one.
func (v view) scores() []api.Score {
	var l []api.Score
	for _, s := range v.Window {
		if s.Scored {
			l = append(l, s.Score)
		}
	}
	return l
}
