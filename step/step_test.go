package step_test

import (
	"math/rand/v2"
	"slices"
	"testing"

	"copse/api"
	"copse/explain"
	"copse/forest"
	"copse/shape"
	"copse/state"
	"copse/step"
	"copse/tree"
)

const (
	least = -1 << 63
	most  = 1<<63 - 1
	top   = 1<<64 - 1 // does not count for what is no power of 2
	unit  = api.Unit
)

// small is a valid configuration with few of everything.
func small() api.Conf {
	return api.Conf{Dim: 1, Window: 3, Trees: 2, Sample: 2, Every: 2, Kind: api.KindAxis, Part: 1, Whole: 2, Tries: 1, Keep: 2, Notes: 1}
}

func fresh(t *testing.T, c api.Conf) api.State {
	t.Helper()
	s, e := state.New(c)
	if e != api.OK {
		t.Fatal(c, e)
	}
	return s
}

func put(id int, x ...int) api.Ask {
	return api.Ask{Kind: api.AskPut, Id: id, X: x}
}

// read is the tree with that text.
func read(text string) api.Tree {
	t, e := shape.Parse(text)
	if e != api.OK {
		panic(text)
	}
	return t
}

// told reports whether a and b are the same answer.
func told(a, b api.Told) bool {
	return a.Kind == b.Kind && a.Score == b.Score && a.Scored == b.Scored && a.Level == b.Level && a.Over == b.Over && a.Seq == b.Seq && a.N == b.N &&
		slices.Equal(a.Alerts, b.Alerts) && a.Stats == b.Stats && slices.Equal(a.Why, b.Why)
}

// does takes a step that must succeed, with this answer and these draws.
func does(t *testing.T, s api.State, a api.Ask, l []uint64, want api.Told, used int) api.State {
	t.Helper()
	want.Kind = a.Kind
	next, got, n, e := step.Do(s, a, l)
	if e != api.OK || !told(got, want) || n != used || !state.Right(next) {
		t.Fatal(a, l, got, n, e, "not", want, used)
	}
	if !step.Changes(a.Kind) && !state.Same(next, s) {
		t.Fatal(a, next, "was", s)
	}
	return next
}

// fails takes a step that must fail, and change nothing.
func fails(t *testing.T, s api.State, a api.Ask, l []uint64, want api.Errno) {
	t.Helper()
	if next, got, n, e := step.Do(s, a, l); e != want || !told(got, api.Told{}) || n != 0 || !state.Same(next, s) {
		t.Error(a, len(l), got, n, e, "not", want)
	}
}

// equals fails if a state is not the one that is wanted.
func equals(t *testing.T, got, want api.State) {
	t.Helper()
	if !state.Same(got, want) {
		t.Fatal(got, "not", want)
	}
}

// P29.1: the life of a small service, reckoned by hand.
func TestByHand(t *testing.T) {
	one := api.Score{P: unit, Q: 1}
	s := fresh(t, small())
	want := api.State{Conf: small(), Count: 1, Last: 3, Window: []api.Seen{{Id: 3, X: []int{0}}}}
	s = does(t, s, put(3, 0), []uint64{9, 9}, api.Told{}, 0)
	equals(t, s, want)

	// The picks 0 0 are the positions 0 and 1; the only column is open; 1 + 4 is the level.
	s = does(t, s, put(5, 10), []uint64{0, 0, 0, 4, 77}, api.Told{}, 4)
	want.Count, want.Last, want.Window = 2, 5, append(want.Window, api.Seen{Id: 5, X: []int{10}})
	want.Forest = []api.Grown{{Tree: read("1:(1 < 5 1 1)"), Born: 2}}
	equals(t, s, want)

	// Without a line, nothing is over it.
	s = does(t, s, put(6, 7), nil, api.Told{Score: one, Scored: true, Level: 500}, 0)
	want.Count, want.Last, want.Window = 3, 6, append(want.Window, api.Seen{Id: 6, X: []int{7}, Score: one, Scored: true})
	equals(t, s, want)

	// The oldest event goes; the picks 2 1 are the positions 2 and 0, that is 20 and 10; 11 + 9 is the level.
	s = does(t, s, put(8, 20), []uint64{2, 1, 0, 9}, api.Told{Score: one, Scored: true, Level: 500}, 4)
	want.Count, want.Last, want.Window = 4, 8, append(want.Window[1:], api.Seen{Id: 8, X: []int{20}, Score: one, Scored: true})
	want.Forest = append(want.Forest, api.Grown{Tree: read("1:(1 < 20 1 1)"), Born: 4})
	equals(t, s, want)

	// Two scores, rank 1: what is equal to the line is over it.
	does(t, s, api.Ask{Kind: api.AskStats}, nil, api.Told{Stats: api.Stats{Count: 4, Window: 3, Trees: 2, Line: one, Lined: true}}, 0)
	does(t, s, api.Ask{Kind: api.AskScore, X: []int{30}}, nil, api.Told{Score: one, Scored: true, Level: 500, Over: true}, 0)
	does(t, s, api.Ask{Kind: api.AskWhy, X: []int{7}}, nil, api.Told{Why: []api.Why{{Steps: 2, Lo: 5, Hi: 19}}}, 0)
	s = does(t, s, put(9, 30), nil, api.Told{Score: one, Scored: true, Level: 500, Over: true, Seq: 1}, 0)
	want.Count, want.Last, want.Window = 5, 9, append(want.Window[1:], api.Seen{Id: 9, X: []int{30}, Score: one, Scored: true})
	want.Seq, want.Alerts = 1, []api.Alert{{Seq: 1, Id: 9, Score: one, Line: one}}
	equals(t, s, want)

	// The third tree replaces the first one. The points are equal: its root is a leaf.
	s = does(t, s, put(10, 30), []uint64{1, 1}, api.Told{Score: one, Scored: true, Level: 500, Over: true, Seq: 2}, 2)
	want.Count, want.Last, want.Window = 6, 10, append(want.Window[1:], api.Seen{Id: 10, X: []int{30}, Score: one, Scored: true})
	want.Seq, want.Alerts = 2, append(want.Alerts, api.Alert{Seq: 2, Id: 10, Score: one, Line: one})
	want.Forest[0] = api.Grown{Tree: read("1:2"), Born: 6}
	equals(t, s, want)

	fails(t, s, put(11, 30), nil, api.ErrBusy)
	s = does(t, s, api.Ask{Kind: api.AskAck, N: 1}, nil, api.Told{N: 1}, 0)
	want.Alerts = want.Alerts[1:]
	equals(t, s, want)
	s = does(t, s, api.Ask{Kind: api.AskAck, N: 1}, nil, api.Told{}, 0)
	equals(t, s, want)
	s = does(t, s, put(11, 30), nil, api.Told{Score: one, Scored: true, Level: 500, Over: true, Seq: 3}, 0)
	s = does(t, s, api.Ask{Kind: api.AskAck, N: 3}, nil, api.Told{N: 2}, 0)
	if len(s.Alerts) > 0 || s.Seq != 3 {
		t.Error(s)
	}
}

// P29.1: the score of a leaf that has more than one point, in one of two trees, is less than that of the line, and so over it.
func TestOver(t *testing.T) {
	s := grown(t, small(), 5)
	s.Alerts = nil
	s.Forest[0].Tree, s.Forest[1].Tree = read("1:(1 < 5 1 1)"), read("1:2")
	three, two := api.Score{P: 3 * unit, Q: 1}, api.Score{P: 2 * unit, Q: 1}
	for _, c := range []struct {
		scores [3]api.Score
		line   api.Score
		over   bool
	}{
		{[3]api.Score{three, two, {P: unit, Q: 1}}, two, true},
		{[3]api.Score{{P: 0, Q: 1}, {P: unit / 2, Q: 1}, {P: unit, Q: 1}}, api.Score{P: unit / 2, Q: 1}, false},
		{[3]api.Score{{P: unit, Q: 1}, {P: unit, Q: 1}, {P: unit, Q: 1}}, api.Score{P: unit, Q: 1}, true},
		{[3]api.Score{{P: unit - 1, Q: 1}, {P: unit - 1, Q: 1}, {P: unit, Q: 1}}, api.Score{P: unit - 1, Q: 1}, false},
		{[3]api.Score{{P: 16*unit + 1, Q: 16}, {P: 16*unit + 1, Q: 16}, {P: 0, Q: 1}}, api.Score{P: 16*unit + 1, Q: 16}, true},
	} {
		for i, of := range c.scores {
			s.Window[i].Score, s.Window[i].Scored = of, true
		}
		want := api.Told{Score: api.Score{P: unit, Q: 1}, Scored: true, Level: 500, Over: c.over}
		does(t, s, api.Ask{Kind: api.AskScore, X: []int{4}}, nil, want, 0)
		if c.over {
			want.Seq = s.Seq + 1
		}
		next := does(t, s, put(s.Last+1, 4), []uint64{0, 0, 0, 0}, want, used(t, s, put(s.Last+1, 4)))
		var alerts []api.Alert
		if c.over {
			// The line is that before the event.
			alerts = []api.Alert{{Seq: s.Seq + 1, Id: s.Last + 1, Score: want.Score, Line: c.line}}
		}
		if !slices.Equal(next.Alerts, alerts) {
			t.Error(next.Alerts, alerts)
		}
	}
}

// used is how many of some draws a step takes.
func used(t *testing.T, s api.State, a api.Ask) int {
	t.Helper()
	_, _, n, e := step.Do(s, a, []uint64{0, 0, 0, 0})
	if e != api.OK {
		t.Fatal(a, e)
	}
	return n
}

// grown is the state after n events, none of which is acknowledged more often than it must be.
func grown(t *testing.T, c api.Conf, n int) api.State {
	t.Helper()
	random := rand.New(rand.NewPCG(29, 7))
	s := fresh(t, c)
	for range 20 * (n + 1) {
		if s.Count == n {
			return s
		}
		x := make([]int, c.Dim)
		for i := range x {
			x[i] = random.IntN(20) - 10
		}
		next, _, _, e := step.Do(s, put(s.Last+1+random.IntN(3), x...), draws(random, 3000))
		if e == api.ErrBusy {
			next, _, _, e = step.Do(s, api.Ask{Kind: api.AskAck, N: s.Seq - random.IntN(c.Keep)}, nil)
		}
		if e != api.OK && e != api.ErrTries {
			t.Fatal(c, s.Count, e)
		}
		s = next
	}
	t.Fatal("too few events are accepted", s)
	return s
}

// draws is random ones, of which few do not count.
func draws(random *rand.Rand, n int) []uint64 {
	l := make([]uint64, n)
	for i := range l {
		l[i] = random.Uint64()
		if random.IntN(30) == 0 {
			l[i] = top
		}
	}
	return l
}

// P29.1: the example of the chapter, and what else is told before all events.
func TestFresh(t *testing.T) {
	for _, c := range confs() {
		s := fresh(t, c)
		x := make([]int, c.Dim)
		does(t, s, api.Ask{Kind: api.AskStats}, nil, api.Told{}, 0)
		does(t, s, api.Ask{Kind: api.AskSnap}, nil, api.Told{}, 0)
		does(t, s, api.Ask{Kind: api.AskAlerts, N: 0, M: 9}, nil, api.Told{}, 0)
		does(t, s, api.Ask{Kind: api.AskAck}, nil, api.Told{}, 0)
		fails(t, s, api.Ask{Kind: api.AskAck, N: 1}, nil, api.ErrArg)
		fails(t, s, api.Ask{Kind: api.AskScore, X: x}, nil, api.ErrNone)
		fails(t, s, api.Ask{Kind: api.AskWhy, X: x}, nil, api.ErrNone)
		does(t, s, put(1, x...), nil, api.Told{}, 0)
	}
}

// waiting is a state in which the alerts 3, 4 and 5 wait.
func waiting(t *testing.T) api.State {
	t.Helper()
	c := small()
	c.Window, c.Keep = 9, 3
	s := grown(t, c, 9)
	of := api.Score{P: 1, Q: 1}
	s.Seq, s.Alerts = 5, []api.Alert{{Seq: 3, Id: 1, Score: of, Line: of}, {Seq: 4, Id: 2, Score: of, Line: of}, {Seq: 5, Id: s.Last, Score: of, Line: of}}
	if !state.Right(s) {
		t.Fatal(s)
	}
	return s
}

// P29.1: AskAlerts, AskAck, and AskStats of what waits.
func TestAlerts(t *testing.T) {
	s := waiting(t)
	for n, from := range map[int]int{0: 0, 1: 0, 2: 0, 3: 0, 4: 1, 5: 2, 6: 3, 7: 3, api.MaxId: 3} {
		for m, many := range map[int]int{0: 0, 1: 1, 2: 2, 3: 3, 4: 3, 64: 3, 65: 3, api.MaxId: 3} {
			want := s.Alerts[from:min(3, from+many)]
			does(t, s, api.Ask{Kind: api.AskAlerts, N: n, M: m}, nil, api.Told{Alerts: want}, 0)
		}
	}
	for n, acked := range []int{0, 0, 0, 1, 2, 3} {
		want := waiting(t)
		want.Alerts = want.Alerts[acked:]
		next := does(t, s, api.Ask{Kind: api.AskAck, N: n}, []uint64{1, 2}, api.Told{N: acked}, 0)
		equals(t, next, want)
		st := api.Stats{Count: 9, Window: 9, Trees: 2, Waiting: 3 - acked, Seq: 5}
		st.Line, st.Lined = state.Line(want)
		does(t, next, api.Ask{Kind: api.AskStats}, nil, api.Told{Stats: st}, 0)
	}
	for _, n := range []int{6, 7, api.MaxId} {
		fails(t, s, api.Ask{Kind: api.AskAck, N: n}, nil, api.ErrArg)
	}
}

// P29.1, R2: the errors before those of a kind.
func TestWrong(t *testing.T) {
	right := []api.Ask{put(99, 1), {Kind: api.AskScore, X: []int{1}}, {Kind: api.AskAlerts}, {Kind: api.AskAck}, {Kind: api.AskStats}, {Kind: api.AskSnap}, {Kind: api.AskWhy, X: []int{1}}}
	wrong := []api.Ask{
		{}, {Kind: 8}, {Kind: -1}, {Kind: least}, {Kind: most}, {Kind: api.AskPut, Id: -1, X: []int{1}}, put(api.MaxId+1, 1), put(99, api.MostValue+1), put(99, api.LeastValue-1), put(99, make([]int, 9)...), {Kind: api.AskPut, Id: 99, X: []int{1}, N: 1}, {Kind: api.AskPut, Id: 99, X: []int{1}, M: 1},
		{Kind: api.AskScore, Id: 1, X: []int{1}}, {Kind: api.AskScore, X: []int{most}}, {Kind: api.AskWhy, X: []int{1}, N: 1}, {Kind: api.AskWhy, X: make([]int, 9)}, {Kind: api.AskAlerts, N: -1}, {Kind: api.AskAlerts, M: -1}, {Kind: api.AskAlerts, N: api.MaxId + 1}, {Kind: api.AskAlerts, M: api.MaxId + 1}, {Kind: api.AskAlerts, X: []int{1}},
		{Kind: api.AskAck, N: -1}, {Kind: api.AskAck, M: 1}, {Kind: api.AskStats, N: 1}, {Kind: api.AskSnap, Id: 1}, {Kind: api.AskSnap, X: []int{1}},
	}
	s := grown(t, small(), 9)
	for _, a := range wrong {
		fails(t, s, a, nil, api.ErrArg)
	}
	for i, change := range []func(s *api.State){
		func(s *api.State) { *s = api.State{} },
		func(s *api.State) { s.Conf.Keep = 0 },
		func(s *api.State) { s.Count++ },
		func(s *api.State) { s.Last++ },
		func(s *api.State) { s.Window[1].X = []int{1, 2} },
		func(s *api.State) { s.Window = s.Window[1:] },
		func(s *api.State) { s.Forest = s.Forest[1:] },
		func(s *api.State) { s.Forest[0].Tree.Nodes[0].Right = 77 },
		func(s *api.State) { s.Seq = -1 },
		func(s *api.State) { s.Seq, s.Alerts = 0, make([]api.Alert, 1) },
	} {
		s := grown(t, small(), 9)
		change(&s)
		if state.Right(s) {
			t.Fatal(i)
		}
		for _, a := range append(wrong, right...) {
			fails(t, s, a, nil, api.ErrState)
		}
	}
}

// P29.1, R2: of several errors the first one.
func TestOrder(t *testing.T) {
	s := waiting(t)
	vectors := [][]int{nil, {}, {1, 2}, make([]int, 8)}
	for _, x := range vectors {
		fails(t, s, put(0, x...), nil, api.ErrVec)
		fails(t, s, put(s.Last+1, x...), nil, api.ErrVec)
		fails(t, s, api.Ask{Kind: api.AskScore, X: x}, nil, api.ErrVec)
		fails(t, s, api.Ask{Kind: api.AskWhy, X: x}, nil, api.ErrVec)
		fails(t, fresh(t, small()), api.Ask{Kind: api.AskScore, X: x}, nil, api.ErrVec)
		fails(t, fresh(t, small()), api.Ask{Kind: api.AskWhy, X: x}, nil, api.ErrVec)
	}
	for _, id := range []int{0, 1, s.Last - 1, s.Last} {
		fails(t, s, put(id, 1), nil, api.ErrOnce)
	}
	fails(t, fresh(t, small()), put(0, 1), nil, api.ErrOnce)
	for _, id := range []int{s.Last + 1, api.MaxId} {
		fails(t, s, put(id, 1), draws(rand.New(rand.NewPCG(1, 1)), 100), api.ErrBusy)
	}
	end := aged(t, waiting(t), api.MaxCount)
	fails(t, end, put(end.Last, 1), nil, api.ErrOnce)
	fails(t, end, put(end.Last+1, 1), nil, api.ErrBusy)
	end.Alerts = nil
	fails(t, end, put(end.Last, 1, 2), nil, api.ErrVec)
	fails(t, end, put(end.Last+1, 1), nil, api.ErrLong)
	does(t, end, api.Ask{Kind: api.AskAck, N: end.Seq}, nil, api.Told{}, 0)
	does(t, end, api.Ask{Kind: api.AskScore, X: []int{1}}, nil, judged(end, []int{1}), 0)
	end.Last, end.Window[8].Id = api.MaxId, api.MaxId
	fails(t, end, put(api.MaxId, 1), nil, api.ErrOnce)
}

// aged is s with the last ones of so many events, of which all have scores.
func aged(t *testing.T, s api.State, count int) api.State {
	t.Helper()
	s.Count = count
	births, e := state.Births(s.Conf, count)
	if e != api.OK || len(births) != len(s.Forest) {
		t.Fatal(count, births, e)
	}
	for i := range s.Forest {
		s.Forest[i].Born = births[i]
	}
	for i := range s.Window {
		if !s.Window[i].Scored {
			s.Window[i].Scored, s.Window[i].Score = true, api.Score{P: 3*unit + 1, Q: 1 + i%2}
		}
	}
	if !state.Right(s) {
		t.Fatal(s)
	}
	return s
}

// P29.1: a tree is grown at the last event of all, if that is a turn.
func TestLastEvent(t *testing.T) {
	c := small()
	s := grown(t, c, 9)
	s.Alerts = nil
	s = aged(t, s, api.MaxCount-1)
	fails(t, s, put(s.Last+1, 100), []uint64{0, 0, 0}, api.ErrDraws)
	next, _, n, e := step.Do(s, put(s.Last+1, 100), []uint64{0, 0, 0, 0})
	if e != api.OK || n != 4 || next.Count != api.MaxCount || !state.Right(next) {
		t.Fatal(next, n, e)
	}
	born := []int{next.Forest[0].Born, next.Forest[1].Born}
	if want, _ := state.Births(c, api.MaxCount); !slices.Equal(born, want) || slices.Max(born) != api.MaxCount {
		t.Error(born, want)
	}
	next.Alerts = nil
	fails(t, next, put(s.Last+2, 100), []uint64{0, 0, 0, 0}, api.ErrLong)
}

// P29.1: picking and growing, each with its errors, and nothing has changed after them.
func TestDraws(t *testing.T) {
	s := fresh(t, small())
	s = does(t, s, put(1, 3), nil, api.Told{}, 0)
	for n := range 4 {
		fails(t, s, put(2, 9), []uint64{0, 0, 0, 0}[:n], api.ErrDraws)
	}
	does(t, s, put(2, 9), []uint64{0, 0, 0, 0}, api.Told{}, 4)
	// Between 3 and 9 there are 6 levels, for which the last draw does not count.
	fails(t, s, put(2, 9), []uint64{0, 0, 0, top, 0}, api.ErrTries)
	s.Conf.Tries = 2
	does(t, s, put(2, 9), []uint64{0, 0, 0, top, 0}, api.Told{}, 5)
	fails(t, s, put(2, 9), []uint64{0, 0, 0, top}, api.ErrDraws)
	fails(t, s, put(2, 9), []uint64{0, 0, 0, top, top}, api.ErrTries)
	// The picks of three go wrong before anything is grown.
	s = grown(t, small(), 3)
	s.Alerts = nil
	fails(t, s, put(s.Last+1, 9), []uint64{top, 0, 0, 0, 0, 0}, api.ErrTries)
	s.Conf.Tries = 2
	next, _, n, e := step.Do(s, put(s.Last+1, 9), []uint64{top, 0, 0, 0, 0, 0})
	if e != api.OK || n < 3 || next.Forest[1].Born != 4 {
		t.Error(next, n, e)
	}
}

// full is a state at whose next event a tree of 64 points is grown, which are all equal; so draws only pick, from 64 to 1 positions.
func full(t *testing.T) api.State {
	t.Helper()
	c := api.Conf{Dim: 1, Window: 64, Trees: 1, Sample: 64, Every: 64, Kind: api.KindPlane, Part: 1, Whole: 2, Tries: 64, Keep: 1, Notes: 1}
	s := fresh(t, c)
	for id := 1; id <= 63; id++ {
		s = does(t, s, put(id, 5), nil, api.Told{}, 0)
	}
	return s
}

// wasted is draws for full, of which so many do not count.
func wasted(many int) []uint64 {
	var l []uint64
	for n := 64; n >= 1; n-- {
		if n&(n-1) != 0 {
			waste := min(many, 63)
			l = append(l, slices.Repeat([]uint64{top}, waste)...)
			many -= waste
		}
		l = append(l, 0)
	}
	return l
}

// P29.1: the draws beyond the first MaxDraws may not be used.
func TestMaxDraws(t *testing.T) {
	s := full(t)
	for _, waste := range []int{0, 1, 1000, api.MaxDraws - 65, api.MaxDraws - 64} {
		for _, more := range [][]uint64{nil, {0}, make([]uint64, 3000)} {
			next := does(t, s, put(64, 5), append(wasted(waste), more...), api.Told{}, 64+waste)
			if !tree.Same(next.Forest[0].Tree, read("1:64")) {
				t.Error(next.Forest)
			}
		}
	}
	for _, waste := range []int{api.MaxDraws - 63, api.MaxDraws - 62, 3500} {
		l := wasted(waste)
		if len(l) != 64+waste {
			t.Fatal(len(l))
		}
		fails(t, s, put(64, 5), l, api.ErrDraws)
		fails(t, s, put(64, 5), append(l, make([]uint64, 3000)...), api.ErrDraws)
	}
	fails(t, s, put(64, 5), slices.Repeat([]uint64{0}, 63), api.ErrDraws)
	// What goes wrong with the last draw that may be used goes wrong.
	l := append(wasted(api.MaxDraws-64), 0)
	l[api.MaxDraws-1] = top
	does(t, s, put(64, 5), l, api.Told{}, api.MaxDraws)
}

// P29.2
func TestChanges(t *testing.T) {
	for kind := -10; kind < 300; kind++ {
		if step.Changes(kind) != (kind == api.AskPut || kind == api.AskAck) {
			t.Error(kind)
		}
	}
	for _, kind := range []int{least, most, 1 << 32, 1<<32 + 1, 1<<32 + 4} {
		if step.Changes(kind) {
			t.Error(kind)
		}
	}
}

// P29.2
func TestDrawsOf(t *testing.T) {
	for i, d := range []struct{ kind, dim, sample, tries, want int }{
		{api.KindAxis, 1, 2, 1, 2 + 2}, {api.KindAxis, 8, 2, 1, 2 + 2}, {api.KindAxis, 1, 8, 4, 32 + 7*8}, {api.KindPlane, 1, 2, 1, 2 + 4}, {api.KindPlane, 8, 2, 1, 2 + 11}, {api.KindPlane, 3, 8, 2, 16 + 7*(4+2+12)}, {api.KindAxis, 1, 64, 10, 640 + 63*20}, {api.KindAxis, 1, 64, 11, api.MaxDraws}, {api.KindPlane, 8, 64, 64, api.MaxDraws}, {api.KindAxis, 1, 3, 64, 192 + 256}, {api.KindAxis, 3, 16, 44, 704 + 15*88}, {api.KindAxis, 3, 16, 45, api.MaxDraws},
		{api.KindAxis, 1, 9, 64, 576 + 8*128}, {api.KindAxis, 1, 11, 64, 704 + 10*128}, {api.KindAxis, 1, 12, 64, api.MaxDraws}, {api.KindPlane, 4, 7, 7, 49 + 6*(14+7+196)}, {api.KindPlane, 2, 2, 30, 60 + 90 + 1800}, {api.KindPlane, 2, 2, 31, api.MaxDraws},
	} {
		c := small()
		c.Window, c.Kind, c.Dim, c.Sample, c.Tries = 256, d.kind, d.dim, d.sample, d.tries
		if got := step.Draws(c); got != d.want {
			t.Error(i, got, d.want)
		}
	}
	for _, change := range []func(c *api.Conf){
		func(c *api.Conf) { *c = api.Conf{} }, func(c *api.Conf) { c.Dim = 9 }, func(c *api.Conf) { c.Kind = 3 }, func(c *api.Conf) { c.Sample = 4 }, func(c *api.Conf) { c.Sample = 1 }, func(c *api.Conf) { c.Tries = 65 }, func(c *api.Conf) { c.Tries = 0 }, func(c *api.Conf) { c.Notes = 0 }, func(c *api.Conf) { c.Part = 2 },
	} {
		c := small()
		change(&c)
		if got := step.Draws(c); got != 0 {
			t.Error(c, got)
		}
	}
	for _, c := range confs() {
		if got, want := step.Draws(c), min(2048, c.Sample*c.Tries+tree.Most(c.Kind, c.Dim, c.Sample, c.Tries)); got != want {
			t.Error(c, got, want)
		}
	}
}

// P29.1: the answer to AskWhy is the explanation of all trees; R3: its parts are nobody else's.
func TestWhy(t *testing.T) {
	random := rand.New(rand.NewPCG(29, 3))
	for _, c := range confs() {
		s := grown(t, c, 3*c.Every+c.Sample)
		for range 20 {
			x := make([]int, c.Dim)
			for i := range x {
				x[i] = random.IntN(30) - 15
			}
			why, e := explain.All(forest.Trees(s.Forest), x)
			if e != api.OK {
				t.Fatal(e)
			}
			does(t, s, api.Ask{Kind: api.AskWhy, X: x}, draws(random, 9), api.Told{Why: why}, 0)
		}
	}
}
