package item_test

import (
	"bytes"
	"math/big"
	"math/rand/v2"
	"slices"
	"testing"

	"copse/api"
	"copse/bin"
	"copse/item"
)

const (
	least = -1 << 63
	most  = 1<<63 - 1
	id    = 1 << 40
	sum   = 1 << 38
)

// plain is a valid configuration.
func plain() api.Conf {
	return api.Conf{Dim: 2, Window: 256, Trees: 3, Sample: 8, Every: 5, Kind: api.KindPlane, Part: 1, Whole: 10, Tries: 4, Keep: 3, Notes: 9}
}

// confNumbers is the numbers of c, in the order of its fields.
func confNumbers(c api.Conf) []int {
	return []int{c.Dim, c.Window, c.Trees, c.Sample, c.Every, c.Kind, c.Part, c.Whole, c.Tries, c.Keep, c.Notes}
}

// confOf is the configuration with these numbers.
func confOf(l []int) api.Conf {
	return api.Conf{Dim: l[0], Window: l[1], Trees: l[2], Sample: l[3], Every: l[4], Kind: l[5], Part: l[6], Whole: l[7], Tries: l[8], Keep: l[9], Notes: l[10]}
}

// rightConf is by the words of sched.
func rightConf(c api.Conf) bool {
	is := func(n, lo, hi int) bool { return lo <= n && n <= hi }
	return is(c.Dim, 1, 8) && is(c.Window, 2, 256) && is(c.Trees, 1, 16) && is(c.Sample, 2, 64) && c.Sample <= c.Window && is(c.Every, 1, 256) && is(c.Kind, 1, 2) && is(c.Whole, 2, 1000) && c.Part >= 1 && c.Part < c.Whole && is(c.Tries, 1, 64) && is(c.Keep, 1, 64) && is(c.Notes, 1, 256)
}

// confs is valid configurations.
func confs() []api.Conf {
	l := []api.Conf{
		plain(),
		{Dim: 1, Window: 2, Trees: 1, Sample: 2, Every: 1, Kind: 1, Part: 1, Whole: 2, Tries: 1, Keep: 1, Notes: 1},
		{Dim: 8, Window: 256, Trees: 16, Sample: 64, Every: 256, Kind: 2, Part: 999, Whole: 1000, Tries: 64, Keep: 64, Notes: 256},
	}
	random := rand.New(rand.NewPCG(22, 1))
	for len(l) < 300 {
		c := api.Conf{Dim: 1 + random.IntN(8), Window: 2 + random.IntN(255), Trees: 1 + random.IntN(16), Every: 1 + random.IntN(256), Kind: 1 + random.IntN(2), Whole: 2 + random.IntN(999), Tries: 1 + random.IntN(64), Keep: 1 + random.IntN(64), Notes: 1 + random.IntN(256)}
		c.Sample = 2 + random.IntN(min(c.Window, 64)-1)
		c.Part = 1 + random.IntN(c.Whole-1)
		l = append(l, c)
	}
	return l
}

// of is the valid score that is p divided by q.
func of(p, q int) api.Score {
	r := big.NewRat(int64(p), int64(q))
	return api.Score{P: int(r.Num().Int64()), Q: int(r.Denom().Int64())}
}

// scores is valid scores.
func scores() []api.Score {
	l := []api.Score{{P: 0, Q: 1}, {P: 1, Q: 1}, {P: 3, Q: 2}, {P: 1, Q: 2}, {P: 1, Q: 16}, {P: sum, Q: 1}, {P: sum, Q: 15}, {P: sum - 1, Q: 16}, {P: 239, Q: 1}, {P: 240, Q: 1}, {P: 255, Q: 16}, {P: 257, Q: 16}}
	random := rand.New(rand.NewPCG(22, 2))
	for len(l) < 60 {
		l = append(l, of(random.IntN(sum+1), 1+random.IntN(16)))
	}
	return l
}

// notScores is scores that are not valid.
func notScores() []api.Score {
	return []api.Score{{}, {P: 1}, {Q: 2}, {P: 0, Q: 16}, {P: 2, Q: 2}, {P: 6, Q: 4}, {P: 15, Q: 15}, {P: 1, Q: 17}, {P: 1, Q: id}, {P: sum + 1, Q: 1}, {P: sum, Q: 2}, {P: -1, Q: 1}, {P: 1, Q: -1}, {P: -1, Q: -1}, {P: least, Q: 1}, {P: most, Q: 1}, {P: 1, Q: least}, {P: 1, Q: most}, {P: least, Q: least}}
}

// rightScore is by the words of score.
func rightScore(s api.Score) bool {
	return s.P >= 0 && s.P <= sum && s.Q >= 1 && s.Q <= 16 && of(s.P, s.Q) == s
}

// seens is valid events of dimension dim.
func seens(dim int) []api.Seen {
	random := rand.New(rand.NewPCG(22, uint64(10+dim)))
	var l []api.Seen
	for i, s := range scores() {
		x := make([]int, dim)
		for k := range x {
			x[k] = []int{0, -1, 1, 1<<31 - 1, -1 << 31, random.IntN(1<<32) - 1<<31}[random.IntN(6)]
		}
		n := []int{1, 2, 239, 240, 255, 256, id - 1, id, 1 + random.IntN(id)}[i%9]
		l = append(l, api.Seen{Id: n, X: x}, api.Seen{Id: n, X: x, Score: s, Scored: true})
	}
	return l
}

func sameSeen(a, b api.Seen) bool {
	return a.Id == b.Id && slices.Equal(a.X, b.X) && a.Score == b.Score && a.Scored == b.Scored
}

// alerts is valid alerts.
func alerts() []api.Alert {
	var l []api.Alert
	numbers := []int{1, 2, 240, 256, id - 1, id, 7}
	for _, s := range scores() {
		for _, line := range scores() {
			// Below 2^43.
			if s.P*line.Q <= line.P*s.Q {
				l = append(l, api.Alert{Seq: numbers[len(l)%7], Id: numbers[(len(l)+len(l)/7)%7], Score: s, Line: line})
			}
		}
	}
	return l
}

// asks is valid requests.
func asks() []api.Ask {
	l := []api.Ask{{Kind: api.AskStats}, {Kind: api.AskSnap}}
	for n, x := range [][]int{nil, {}, {0}, {-1}, {1, -2}, {1<<31 - 1}, {-1 << 31}, {-1 << 31, 1<<31 - 1, 0, 5, 119, -120, 120, -121}} {
		for _, i := range []int{0, 1, 5, 239, 240, id - 1, id} {
			l = append(l, api.Ask{Kind: api.AskPut, Id: i, X: x})
			l = append(l, api.Ask{Kind: api.AskAlerts, N: i, M: n}, api.Ask{Kind: api.AskAlerts, N: n, M: i}, api.Ask{Kind: api.AskAck, N: i})
		}
		l = append(l, api.Ask{Kind: api.AskScore, X: x}, api.Ask{Kind: api.AskWhy, X: x})
	}
	return append(l, api.Ask{Kind: api.AskAlerts, N: id, M: id})
}

// notAsks is requests that are not valid.
func notAsks() []api.Ask {
	l := []api.Ask{
		{}, {Kind: 8}, {Kind: 9}, {Kind: 100}, {Kind: -1}, {Kind: -7}, {Kind: least}, {Kind: most}, {Kind: 1<<32 + 1}, {Kind: 8, X: []int{1}}, {Id: 1, X: []int{1}},
		{Kind: api.AskPut, N: 1}, {Kind: api.AskPut, M: 1}, {Kind: api.AskPut, Id: 1, X: []int{1}, N: 1}, {Kind: api.AskPut, Id: 1, X: []int{1}, M: -1},
		{Kind: api.AskAlerts, Id: 1}, {Kind: api.AskAlerts, X: []int{0}}, {Kind: api.AskAlerts, N: 1, M: 1, Id: -1},
		{Kind: api.AskAck, Id: 1}, {Kind: api.AskAck, X: []int{0}}, {Kind: api.AskAck, M: 1}, {Kind: api.AskAck, N: 1, M: 1},
	}
	for _, kind := range []int{api.AskScore, api.AskWhy} {
		l = append(l, api.Ask{Kind: kind, Id: 1}, api.Ask{Kind: kind, N: 1}, api.Ask{Kind: kind, M: 1}, api.Ask{Kind: kind, X: []int{1}, Id: 1}, api.Ask{Kind: kind, X: []int{1}, N: -1})
	}
	for _, kind := range []int{api.AskStats, api.AskSnap} {
		l = append(l, api.Ask{Kind: kind, Id: 1}, api.Ask{Kind: kind, N: 1}, api.Ask{Kind: kind, M: 1}, api.Ask{Kind: kind, X: []int{0}})
	}
	for _, n := range []int{-1, id + 1, least, most, -id} {
		l = append(l, api.Ask{Kind: api.AskPut, Id: n, X: []int{1}}, api.Ask{Kind: api.AskAlerts, N: n}, api.Ask{Kind: api.AskAlerts, M: n}, api.Ask{Kind: api.AskAlerts, N: 1, M: n}, api.Ask{Kind: api.AskAck, N: n})
	}
	for _, x := range [][]int{make([]int, 9), make([]int, 300), {1 << 31}, {-1<<31 - 1}, {least}, {most}, {0, 0, 1 << 31}, {1 << 31, 0}, {0, 0, 0, 0, 0, 0, 0, -1<<31 - 1}} {
		l = append(l, api.Ask{Kind: api.AskPut, Id: 1, X: x}, api.Ask{Kind: api.AskScore, X: x}, api.Ask{Kind: api.AskWhy, X: x})
	}
	return l
}

func sameAsk(a, b api.Ask) bool {
	return a.Kind == b.Kind && a.Id == b.Id && slices.Equal(a.X, b.X) && a.N == b.N && a.M == b.M
}

// P22.1
func TestRightSeen(t *testing.T) {
	for dim := 1; dim <= 8; dim++ {
		for _, s := range seens(dim) {
			for other := -1; other <= 10; other++ {
				if got := item.RightSeen(s, other); got != (other == dim) {
					t.Error(s, other, got)
				}
			}
		}
	}
	x := []int{1, -2}
	for i, s := range []api.Seen{
		{}, {X: x}, {Id: -1, X: x}, {Id: id + 1, X: x}, {Id: least, X: x}, {Id: most, X: x}, {X: x, Score: of(1, 2), Scored: true},
		{Id: 1}, {Id: 1, X: []int{}}, {Id: 1, X: []int{1}}, {Id: 1, X: []int{1, 2, 3}}, {Id: 1, X: []int{1 << 31, 0}}, {Id: 1, X: []int{0, -1<<31 - 1}}, {Id: 1, X: []int{least, most}},
		{Id: 1, X: x, Score: of(1, 2)}, {Id: 1, X: x, Score: api.Score{Q: 1}}, {Id: 1, X: x, Score: api.Score{P: 1}}, {Id: 1, X: x, Score: api.Score{P: -1}}, {Id: 1, X: x, Scored: true},
	} {
		if item.RightSeen(s, 2) {
			t.Error(i, s)
		}
	}
	for _, s := range notScores() {
		if item.RightSeen(api.Seen{Id: 1, X: x, Score: s, Scored: true}, 2) {
			t.Error(s)
		}
	}
	for _, dim := range []int{0, -1, 9, 10, least, most} {
		if item.RightSeen(api.Seen{Id: 1, X: make([]int, max(0, min(dim, 10)))}, dim) {
			t.Error(dim)
		}
	}
}

// P22.1
func TestRightAlert(t *testing.T) {
	for _, a := range alerts() {
		if !item.RightAlert(a) {
			t.Error(a)
		}
		for _, n := range []int{0, -1, id + 1, least, most} {
			b, c := a, a
			b.Seq, c.Id = n, n
			if item.RightAlert(b) || item.RightAlert(c) {
				t.Error(n, a)
			}
		}
	}
	for _, s := range scores() {
		for _, line := range scores() {
			if got := item.RightAlert(api.Alert{Seq: 1, Id: 1, Score: s, Line: line}); got != (s.P*line.Q <= line.P*s.Q) {
				t.Error(s, line, got)
			}
		}
		for _, other := range notScores() {
			if item.RightAlert(api.Alert{Seq: 1, Id: 1, Score: s, Line: other}) || item.RightAlert(api.Alert{Seq: 1, Id: 1, Score: other, Line: s}) || item.RightAlert(api.Alert{Seq: 1, Id: 1, Score: other, Line: other}) {
				t.Error(s, other)
			}
		}
	}
	if item.RightAlert(api.Alert{}) {
		t.Error("nothing")
	}
}

// P22.1
func TestRightAsk(t *testing.T) {
	for _, a := range asks() {
		if !item.RightAsk(a) {
			t.Error(a)
		}
	}
	for _, a := range notAsks() {
		if item.RightAsk(a) {
			t.Error(a)
		}
	}
}

// usedBy is by the words: which of Id, X, N, M a kind uses.
func usedBy(kind int) [4]bool {
	return map[int][4]bool{api.AskPut: {true, true}, api.AskScore: {1: true}, api.AskAlerts: {2: true, 3: true}, api.AskAck: {2: true}, api.AskWhy: {1: true}}[kind]
}

// P22.1: each kind with each choice of fields that are not zero.
func TestRightAskFields(t *testing.T) {
	for kind := 0; kind <= 9; kind++ {
		for choice := range 16 {
			a := api.Ask{Kind: kind}
			right := kind >= 1 && kind <= 7
			for i, used := range usedBy(kind) {
				if choice>>i&1 == 0 {
					continue
				}
				right = right && used
				switch i {
				case 0:
					a.Id = 3
				case 1:
					a.X = []int{4}
				case 2:
					a.N = 5
				case 3:
					a.M = 6
				}
			}
			if got := item.RightAsk(a); got != right {
				t.Error(a, got)
			}
		}
	}
}

// numbersBytes is the bytes of numbers that are not below 0.
func numbersBytes(l ...int) []byte {
	var b []byte
	for _, n := range l {
		b = bin.U(b, uint64(n))
	}
	return b
}

func scoreBytes(s api.Score) []byte {
	return numbersBytes(s.P, s.Q)
}

func seenBytes(s api.Seen) []byte {
	b := numbersBytes(s.Id)
	for _, n := range s.X {
		b = bin.I(b, n)
	}
	if !s.Scored {
		return append(b, 0)
	}
	return append(append(b, 1), scoreBytes(s.Score)...)
}

func alertBytes(a api.Alert) []byte {
	return slices.Concat(numbersBytes(a.Seq, a.Id), scoreBytes(a.Score), scoreBytes(a.Line))
}

func askBytes(a api.Ask) []byte {
	b := numbersBytes(a.Kind)
	used := usedBy(a.Kind)
	if used[0] {
		b = append(b, numbersBytes(a.Id)...)
	}
	if used[1] {
		b = bin.Ints(b, a.X)
	}
	if used[2] {
		b = append(b, numbersBytes(a.N)...)
	}
	if used[3] {
		b = append(b, numbersBytes(a.M)...)
	}
	return b
}

// puts fails if put does not tell want behind any b, or touches it.
func puts(t *testing.T, put func(b []byte) []byte, want []byte, what any) {
	t.Helper()
	for _, size := range []int{0, 1, 3, 300} {
		whole := bytes.Repeat([]byte{77}, 400)
		b := whole[:size]
		got := put(b)
		if !bytes.Equal(got, append(slices.Clone(b), want...)) {
			t.Error(what, size, got, want)
		}
		for i := range got[:cap(got)] {
			got[:cap(got)][i] = 99
		}
		if !bytes.Equal(whole, bytes.Repeat([]byte{77}, 400)) {
			t.Error(what, size, "b is changed, or shares memory")
		}
	}
	if got := put(nil); !bytes.Equal(got, want) {
		t.Error(what, got, want)
	}
}

// P22.2, R3
func TestPut(t *testing.T) {
	for _, c := range confs() {
		puts(t, func(b []byte) []byte { return item.PutConf(b, c) }, numbersBytes(confNumbers(c)...), c)
	}
	for _, s := range scores() {
		puts(t, func(b []byte) []byte { return item.PutScore(b, s) }, scoreBytes(s), s)
	}
	for dim := 1; dim <= 8; dim++ {
		for _, s := range seens(dim) {
			puts(t, func(b []byte) []byte { return item.PutSeen(b, s, dim) }, seenBytes(s), s)
		}
	}
	for _, a := range alerts() {
		puts(t, func(b []byte) []byte { return item.PutAlert(b, a) }, alertBytes(a), a)
	}
	for _, a := range asks() {
		puts(t, func(b []byte) []byte { return item.PutAsk(b, a) }, askBytes(a), a)
	}
}

// P22.2: bytes written out.
func TestPutExamples(t *testing.T) {
	for i, c := range []struct{ got, want []byte }{
		{item.PutConf([]byte{9}, plain()), []byte{9, 2, 241, 1, 0, 3, 8, 5, 2, 1, 10, 4, 3, 9}},
		{item.PutScore(nil, api.Score{P: 3, Q: 2}), []byte{3, 2}},
		{item.PutScore(nil, api.Score{Q: 1}), []byte{0, 1}},
		{item.PutScore(nil, api.Score{P: sum, Q: 1}), []byte{244, 64, 0, 0, 0, 0, 1}},
		{item.PutSeen(nil, api.Seen{Id: 7, X: []int{-1, 300}, Score: of(3, 2), Scored: true}, 2), []byte{7, 1, 241, 2, 88, 1, 3, 2}},
		{item.PutSeen(nil, api.Seen{Id: id, X: []int{-1 << 31}}, 1), []byte{245, 1, 0, 0, 0, 0, 0, 243, 255, 255, 255, 255, 0}},
		{item.PutAlert(nil, api.Alert{Seq: 1, Id: 2, Score: of(1, 1), Line: of(3, 2)}), []byte{1, 2, 1, 1, 3, 2}},
		{item.PutAlert(nil, api.Alert{Seq: 3, Id: 4, Score: of(3, 2), Line: of(3, 2)}), []byte{3, 4, 3, 2, 3, 2}},
		{item.PutAsk(nil, api.Ask{Kind: api.AskPut, Id: 5, X: []int{1, -2}}), []byte{1, 5, 2, 2, 3}},
		{item.PutAsk(nil, api.Ask{Kind: api.AskPut}), []byte{1, 0, 0}},
		{item.PutAsk(nil, api.Ask{Kind: api.AskScore, X: []int{4}}), []byte{2, 1, 8}},
		{item.PutAsk(nil, api.Ask{Kind: api.AskAlerts, N: 7, M: 9}), []byte{3, 7, 9}},
		{item.PutAsk(nil, api.Ask{Kind: api.AskAck, N: 5}), []byte{4, 5}},
		{item.PutAsk(nil, api.Ask{Kind: api.AskStats}), []byte{5}},
		{item.PutAsk(nil, api.Ask{Kind: api.AskSnap}), []byte{6}},
		{item.PutAsk(nil, api.Ask{Kind: api.AskWhy, X: []int{}}), []byte{7, 0}},
	} {
		if !bytes.Equal(c.got, c.want) {
			t.Error(i, c.got, c.want)
		}
	}
}

// P22.2: b alone, in memory of its own, if the argument is not valid.
func TestPutWrong(t *testing.T) {
	for i := range 11 {
		for _, n := range []int{0, -1, 1001, least, most} {
			l := confNumbers(plain())
			l[i] = n
			puts(t, func(b []byte) []byte { return item.PutConf(b, confOf(l)) }, nil, l)
		}
	}
	puts(t, func(b []byte) []byte { return item.PutConf(b, api.Conf{}) }, nil, "nothing")
	x := []int{1}
	for _, s := range notScores() {
		puts(t, func(b []byte) []byte { return item.PutScore(b, s) }, nil, s)
		puts(t, func(b []byte) []byte { return item.PutSeen(b, api.Seen{Id: 1, X: x, Score: s, Scored: true}, 1) }, nil, s)
		puts(t, func(b []byte) []byte { return item.PutAlert(b, api.Alert{Seq: 1, Id: 1, Score: s, Line: of(1, 1)}) }, nil, s)
		puts(t, func(b []byte) []byte { return item.PutAlert(b, api.Alert{Seq: 1, Id: 1, Score: of(0, 1), Line: s}) }, nil, s)
	}
	for _, s := range []api.Seen{{}, {X: x}, {Id: id + 1, X: x}, {Id: -1, X: x}, {Id: 1, X: []int{1 << 31}}, {Id: 1, X: x, Score: of(1, 1)}} {
		puts(t, func(b []byte) []byte { return item.PutSeen(b, s, 1) }, nil, s)
	}
	for _, dim := range []int{-1, 0, 2, 9, least, most} {
		puts(t, func(b []byte) []byte { return item.PutSeen(b, api.Seen{Id: 1, X: x}, dim) }, nil, dim)
	}
	for _, a := range []api.Alert{{}, {Id: 1, Score: of(1, 1), Line: of(1, 1)}, {Seq: 1, Score: of(1, 1), Line: of(1, 1)}, {Seq: id + 1, Id: 1, Score: of(1, 1), Line: of(1, 1)}, {Seq: 1, Id: 1, Score: of(1, 1), Line: of(1, 2)}} {
		puts(t, func(b []byte) []byte { return item.PutAlert(b, a) }, nil, a)
	}
	for _, a := range notAsks() {
		puts(t, func(b []byte) []byte { return item.PutAsk(b, a) }, nil, a)
	}
}
