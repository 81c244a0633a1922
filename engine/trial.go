package engine

import (
	"slices"

	"copse/api"
	"copse/explain"
	"copse/rule"
	"copse/sched"
	"copse/score"
)

// changes is what a request changes.
type changes struct {
	acked int        // so many of the first alerts go
	seen  *api.Seen  // the event that is accepted, or nil
	tree  *api.Tree  // the tree that is grown, or nil
	place int        // its index
	alert *api.Alert // the alert that the event causes, or nil
}

// apply changes g, from whose state the changes must come.
func (c *changes) apply(g *Engine) {
	g.alerts = slices.Delete(g.alerts, 0, c.acked)
	if c.seen != nil {
		g.see(*c.seen)
		g.count++
		g.last = c.seen.Id
	}
	if c.tree != nil {
		// It is of the others' dimension, and the place is one of theirs, or the next one.
		g.trees.Put(c.place, *c.tree)
	}
	if c.alert != nil {
		g.alerts = append(g.alerts, *c.alert)
		g.seq = c.alert.Seq
	}
}

// stand is what decides about requests.
func (g *Engine) stand() rule.Stand {
	return rule.Stand{Conf: g.conf, Last: g.last, Stats: g.Stats()}
}

// trial is the answer to the valid request a, what it changes if it is of a kind that changes the state, and the number of draws that it uses.
func (g *Engine) trial(a api.Ask, l []uint64) (told api.Told, c *changes, used int, e api.Errno) {
	switch a.Kind {
	case api.AskPut:
		return g.put(a, l)
	case api.AskScore:
		told, e = g.judged(a.X)
	case api.AskWhy:
		told.Why, e = g.why(a.X)
	case api.AskAlerts:
		told.Alerts = rule.From(g.alerts, a.N, a.M)
	case api.AskAck:
		if a.N > g.seq {
			return api.Told{}, nil, 0, api.ErrArg
		}
		told.N = rule.UpTo(g.alerts, a.N)
		c = &changes{acked: told.N}
	case api.AskStats:
		told.Stats = g.Stats()
	}
	return told, c, 0, e
}

// judged is what is told of the vector x; ErrVec if it is none, ErrNone if there are no trees.
func (g *Engine) judged(x []int) (api.Told, api.Errno) {
	at := g.stand()
	if e := at.MayScore(x); e != api.OK {
		return api.Told{}, e
	}
	sum, e := g.trees.Sum(x)
	if e != api.OK {
		return api.Told{}, e
	}
	of, e := score.Of(sum, g.trees.Len())
	if e != api.OK {
		return api.Told{}, e
	}
	return at.Judge(of)
}

// why is the explanation of x, column by column; ErrVec if it is no vector, ErrNone if there are no trees.
func (g *Engine) why(x []int) ([]api.Why, api.Errno) {
	if e := g.stand().MayScore(x); e != api.OK {
		return nil, e
	}
	return explain.All(g.grown(), x)
}

// put is the answer to the request a to accept an event, what that changes, and the number of draws that it uses.
func (g *Engine) put(a api.Ask, l []uint64) (told api.Told, c *changes, used int, e api.Errno) {
	at := g.stand()
	if e := at.MayPut(a); e != api.OK {
		return api.Told{}, nil, 0, e
	}
	if g.trees.Len() > 0 {
		told, e = g.judged(a.X)
	}
	if e != api.OK {
		return api.Told{}, nil, 0, e
	}
	c = &changes{seen: &api.Seen{Id: a.Id, X: slices.Clone(a.X), Score: told.Score, Scored: told.Scored}}
	used, e = g.grow(c, l)
	if e != api.OK {
		return api.Told{}, nil, 0, e
	}
	if told.Over {
		alert := at.Alert(a.Id, told.Score)
		told.Seq, c.alert = alert.Seq, &alert
	}
	return told, c, used, api.OK
}

// grow adds to the changes the tree that is due with their event, if one is, and tells how many draws that uses.
func (g *Engine) grow(c *changes, l []uint64) (int, api.Errno) {
	place, due := sched.Due(g.conf, g.count+1, g.births())
	if !due {
		return 0, api.OK
	}
	// If there is no room, the oldest event goes, and each other one is a position nearer to the beginning.
	gone := max(0, g.window.Len()+1-g.window.Room())
	point := func(position int) []int {
		seen, e := g.window.At(position + gone)
		if e != api.OK {
			return c.seen.X
		}
		return seen.X
	}
	t, used, e := rule.Grow(g.conf, g.window.Len()+1-gone, point, l)
	if e != api.OK {
		return 0, e
	}
	c.tree, c.place = &t, place
	return used, api.OK
}
