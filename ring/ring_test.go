package ring_test

import (
	"fmt"
	"math/rand/v2"
	"slices"
	"testing"

	"copse/api"
	"copse/ring"
)

const (
	least = -1 << 63
	most  = 1<<63 - 1
)

func opened(t *testing.T, room int) *ring.Ring {
	t.Helper()
	r, e := ring.New(room)
	if r == nil || e != api.OK {
		t.Fatal(room, r, e)
	}
	return r
}

// event is the n-th event of a test, with a number, a vector and a score of its own.
func event(n int) api.Seen {
	s := api.Seen{Id: n, X: []int{n, -n, n * n}[:n%4]}
	if n%3 > 0 {
		s.Score, s.Scored = api.Score{P: n, Q: 1 + n%16}, true
	}
	return s
}

func events(from, to int) []api.Seen {
	var l []api.Seen
	for n := from; n < to; n++ {
		l = append(l, event(n))
	}
	return l
}

func same(a, b api.Seen) bool {
	return a.Id == b.Id && slices.Equal(a.X, b.X) && a.Score == b.Score && a.Scored == b.Scored
}

func points(l []api.Seen) [][]int {
	var p [][]int
	for _, s := range l {
		p = append(p, s.X)
	}
	return p
}

func equal(a, b [][]int) bool {
	return slices.EqualFunc(a, b, slices.Equal[[]int])
}

// holds fails if r does not contain exactly want, or says otherwise by one of its methods.
func holds(t *testing.T, r *ring.Ring, want []api.Seen) {
	t.Helper()
	if r.Len() != len(want) || !slices.EqualFunc(r.All(), want, same) || !equal(r.Points(), points(want)) {
		t.Error(r.Len(), r.All(), r.Points(), want)
	}
	for i, s := range want {
		if got, e := r.At(i); !same(got, s) || e != api.OK {
			t.Error(i, got, e, s)
		}
	}
	for _, i := range []int{-1, len(want), len(want) + 1, -1 - len(want), r.Room(), r.Room() + len(want), 256, -256, least, most} {
		if i >= 0 && i < len(want) {
			continue
		}
		if s, e := r.At(i); !same(s, api.Seen{}) || e != api.ErrNone {
			t.Error(i, s, e)
		}
	}
}

// P17.1
func TestNew(t *testing.T) {
	for room := 1; room <= 256; room++ {
		r := opened(t, room)
		if r.Room() != room || r.Len() != 0 {
			t.Error(room, r.Room(), r.Len())
		}
		holds(t, r, nil)
	}
}

// P17.1, R2
func TestNewErrors(t *testing.T) {
	for _, room := range []int{0, -1, -256, 257, 258, 512, 1<<32 + 1, least, least + 1, most} {
		if r, e := ring.New(room); r != nil || e != api.ErrArg {
			t.Error(room, r, e)
		}
	}
}

// P17.1, P17.2, P17.3
func TestPush(t *testing.T) {
	for _, room := range []int{1, 2, 3, 4, 5, 7, 8, 16, 31, 64, 100, 255, 256} {
		r := opened(t, room)
		for n := range 3*room + 2 {
			old, gone := r.Push(event(n))
			var want api.Seen
			if n >= room {
				want = event(n - room)
			}
			if gone != (n >= room) || !same(old, want) {
				t.Fatal(room, n, old, gone)
			}
			if r.Room() != room {
				t.Fatal(room, n, r.Room())
			}
			if room <= 8 || n%room < 2 || n%37 == 0 {
				holds(t, r, events(max(0, n+1-room), n+1))
			}
		}
	}
}

// P17.3: the first of the document's examples.
func TestExample(t *testing.T) {
	r := opened(t, 2)
	for _, id := range []int{7, 8} {
		if s, gone := r.Push(api.Seen{Id: id}); gone || !same(s, api.Seen{}) {
			t.Error(id, s, gone)
		}
	}
	if s, gone := r.Push(api.Seen{Id: 9}); !gone || s.Id != 7 {
		t.Error(s, gone)
	}
	holds(t, r, []api.Seen{{Id: 8}, {Id: 9}})
}

// P17.1, P17.2: events are stored as they are, whatever they are.
func TestPushAny(t *testing.T) {
	l := []api.Seen{
		{}, {Id: least, X: []int{least, most}}, {Id: most, Score: api.Score{P: least, Q: most}}, {Id: -1, Score: api.Score{P: 2, Q: 2}, Scored: true},
		{X: make([]int, 300)}, {X: []int{}, Scored: true}, {Id: 3, Score: api.Score{P: 1, Q: 3}},
	}
	r := opened(t, len(l))
	for range 2 {
		for _, s := range l {
			r.Push(s)
		}
		holds(t, r, l)
	}
	for _, s := range l {
		if old, gone := r.Push(event(1)); !gone || !same(old, s) {
			t.Error(old, gone, s)
		}
	}
}

// P17.2
func TestFind(t *testing.T) {
	for _, c := range []struct {
		room int
		ids  []int
		find map[int]int // the numbers of the events that are there
	}{
		{1, nil, nil},
		{3, nil, nil},
		{1, []int{4}, map[int]int{4: 0}},
		{1, []int{4, 5}, map[int]int{5: 0}},
		{3, []int{1}, map[int]int{1: 0}},
		{3, []int{0}, map[int]int{0: 0}},
		{3, []int{1, 2}, map[int]int{1: 0, 2: 1}},
		{3, []int{1, 2, 3}, map[int]int{1: 0, 2: 1, 3: 2}},
		{3, []int{1, 2, 3, 4}, map[int]int{2: 0, 3: 1, 4: 2}},
		{3, []int{1, 2, 3, 4, 5}, map[int]int{3: 0, 4: 1, 5: 2}},
		{3, []int{1, 2, 3, 4, 5, 6}, map[int]int{4: 0, 5: 1, 6: 2}},
		{3, []int{5, 5}, map[int]int{5: 1}},
		{3, []int{5, 5, 5}, map[int]int{5: 2}},
		{3, []int{5, 5, 5, 5}, map[int]int{5: 2}},
		{4, []int{5, 5, 6, 6}, map[int]int{5: 1, 6: 3}},
		{4, []int{5, 6, 5, 6, 6}, map[int]int{5: 1, 6: 3}},
		{4, []int{5, 6, 7, 8, 6}, map[int]int{6: 3, 7: 1, 8: 2}},
		{2, []int{-1, least}, map[int]int{-1: 0, least: 1}},
		{2, []int{most, 1 << 40}, map[int]int{most: 0, 1 << 40: 1}},
	} {
		r := opened(t, c.room)
		for _, id := range c.ids {
			r.Push(api.Seen{Id: id, X: []int{9}})
		}
		for _, id := range []int{-1, 0, 1, 2, 3, 4, 5, 6, 7, 8, 9, 1 << 40, least, most} {
			want, ok := c.find[id]
			if i, found := r.Find(id); i != want || found != ok {
				t.Error(c, id, i, found)
			}
		}
	}
}

// P17.1, P17.2, P17.3, R4
func TestRandom(t *testing.T) {
	random := rand.New(rand.NewPCG(17, 1))
	for range 300 {
		room := 1 + random.IntN(12)
		r := opened(t, room)
		var want []api.Seen
		for range random.IntN(60) {
			s := api.Seen{Id: random.IntN(8), X: []int{random.IntN(9), -random.IntN(9)}, Score: api.Score{P: random.IntN(5), Q: 1}, Scored: random.IntN(2) > 0}
			old, gone := r.Push(s)
			want = append(want, s)
			if full := len(want) > room; gone != full || full && !same(old, want[0]) || !full && !same(old, api.Seen{}) {
				t.Fatal(old, gone, want)
			}
			want = want[max(0, len(want)-room):]
			for id := range 9 {
				index := -1
				for i, s := range want {
					if s.Id == id {
						index = i
					}
				}
				if i, ok := r.Find(id); ok != (index >= 0) || i != max(0, index) {
					t.Fatal(id, i, ok, want)
				}
			}
			holds(t, r, want)
		}
	}
}

// P17.2
func TestNil(t *testing.T) {
	var r *ring.Ring
	if s, gone := r.Push(event(7)); gone || !same(s, api.Seen{}) {
		t.Error(s, gone)
	}
	if r.Len() != 0 || r.Room() != 0 || len(r.All()) != 0 || len(r.Points()) != 0 {
		t.Error(r.Len(), r.Room(), r.All(), r.Points())
	}
	for _, i := range []int{0, -1, 1, least, most} {
		if s, e := r.At(i); e != api.ErrShut || !same(s, api.Seen{}) {
			t.Error(i, s, e)
		}
		if i, ok := r.Find(i); i != 0 || ok {
			t.Error(i, ok)
		}
	}
}

func spoil(l ...[]int) {
	for _, x := range l {
		x = x[:cap(x)]
		for i := range x {
			x[i] = 77
		}
	}
}

// P17.1, P17.2, R3: what goes in, and what comes out, is memory of its own.
func TestMemory(t *testing.T) {
	// The vectors are parts of one list, and overlap, with capacity behind their ends.
	whole := []int{1, 2, 3, 4, 5, 6}
	r := opened(t, 3)
	for i := range 5 {
		r.Push(api.Seen{Id: i, X: whole[i : i+1]})
	}
	if fmt.Sprint(whole) != "[1 2 3 4 5 6]" {
		t.Error(whole)
	}
	spoil(whole)
	want := []api.Seen{{Id: 2, X: []int{3}}, {Id: 3, X: []int{4}}, {Id: 4, X: []int{5}}}
	holds(t, r, want)

	s, _ := r.At(1)
	spoil(s.X)
	holds(t, r, want)
	for i, s := range r.All() {
		spoil(s.X)
		holds(t, r, want)
		if l := r.All(); !slices.EqualFunc(l, want, same) {
			t.Error(i, l)
		}
	}
	spoil(r.Points()...)
	holds(t, r, want)
	l := r.All()
	l[0], l[2] = l[2], api.Seen{Id: 8}
	p := r.Points()
	p[0], p[1] = p[1], nil
	holds(t, r, want)

	// Answers stay as they are when events follow.
	l, p = r.All(), r.Points()
	s, _ = r.At(0)
	old, _ := r.Push(event(7))
	spoil(old.X)
	r.Push(event(5))
	r.Push(event(6))
	if !slices.EqualFunc(l, want, same) || !equal(p, points(want)) || !same(s, want[0]) {
		t.Error(l, p, s)
	}
	holds(t, r, []api.Seen{event(7), event(5), event(6)})
}

// R3: no two lists of one answer share memory.
func TestApart(t *testing.T) {
	x := []int{1, 2}
	r := opened(t, 4)
	for i := range 6 {
		r.Push(api.Seen{Id: i, X: x})
	}
	l, p := r.All(), r.Points()
	for i := range l {
		spoil(l[i].X, p[i])
		l[i].X, p[i] = []int{1, 2}, []int{1, 2}
		for k := range l {
			if !slices.Equal(l[k].X, x) || !slices.Equal(p[k], x) {
				t.Error(i, k, l, p)
			}
		}
	}
}

// R4, R5: two rings have nothing to do with each other.
func TestTwo(t *testing.T) {
	a, b := opened(t, 2), opened(t, 3)
	for n := range 7 {
		a.Push(event(n))
		b.Push(event(n + 20))
	}
	holds(t, a, events(5, 7))
	holds(t, b, events(24, 27))
}
