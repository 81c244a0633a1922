// Package rule is what a step and an engine do alike, however they keep their state: which requests they refuse, what they tell of a score, how a tree is grown, and which alerts a request means.
package rule

import (
	"slices"

	"copse/api"
	"copse/pick"
	"copse/quant"
	"copse/score"
	"copse/tree"
	"copse/vec"
)

// Stand is what decides about requests: how a service works, the Id of its last event, and how it stands.
type Stand struct {
	Conf  api.Conf
	Last  int
	Stats api.Stats
}

// MayPut is OK if the event of a may be accepted; ErrVec if X is no vector, ErrOnce if Id is not above that of the last event, ErrBusy if too many alerts wait, ErrLong if there may be no further event.
func (s Stand) MayPut(a api.Ask) api.Errno {
	switch {
	case !vec.Is(a.X, s.Conf.Dim):
		return api.ErrVec
	case a.Id <= s.Last:
		return api.ErrOnce
	case s.Stats.Waiting >= s.Conf.Keep:
		return api.ErrBusy
	case s.Stats.Count >= api.MaxCount:
		return api.ErrLong
	}
	return api.OK
}

// MayScore is OK if x may be scored; ErrVec if it is no vector, ErrNone if there are no trees.
func (s Stand) MayScore(x []int) api.Errno {
	switch {
	case !vec.Is(x, s.Conf.Dim):
		return api.ErrVec
	case s.Stats.Trees == 0:
		return api.ErrNone
	}
	return api.OK
}

// Judge is what is told of a vector that has this score.
func (s Stand) Judge(of api.Score) (api.Told, api.Errno) {
	level, e := score.Level(of, s.Conf.Sample)
	if e != api.OK {
		return api.Told{}, e
	}
	over := false
	if s.Stats.Lined {
		over, e = quant.Over(of, s.Stats.Line)
	}
	if e != api.OK {
		return api.Told{}, e
	}
	return api.Told{Score: of, Scored: true, Level: level, Over: over}, api.OK
}

// Alert is the alert that the event id causes, whose score is over the line.
func (s Stand) Alert(id int, of api.Score) api.Alert {
	return api.Alert{Seq: s.Stats.Seq + 1, Id: id, Score: of, Line: s.Stats.Line}
}

// Grow is a tree of c, and the number of draws that it took, which are the first ones of l: they pick Sample of n positions, and point tells the vector at each; the errors are those of picking and growing.
func Grow(c api.Conf, n int, point func(position int) []int, l []uint64) (api.Tree, int, api.Errno) {
	l = l[:min(len(l), api.MaxDraws)]
	picked, at, e := pick.Sample(l, 0, n, c.Sample, c.Tries)
	if e != api.OK {
		return api.Tree{}, 0, e
	}
	points := make([][]int, len(picked))
	for i, position := range picked {
		points[i] = point(position)
	}
	return tree.Grow(c.Kind, points, l, at, c.Tries)
}

// UpTo is the number of alerts of l whose Seq is not above seq: they are the first ones.
func UpTo(l []api.Alert, seq int) int {
	for i, a := range l {
		if a.Seq > seq {
			return i
		}
	}
	return len(l)
}

// From is the alerts of l from seq on, but only the first ones of them, as many as most says.
func From(l []api.Alert, seq, most int) []api.Alert {
	l = l[UpTo(l, seq-1):]
	return slices.Clone(l[:min(len(l), most)])
}
