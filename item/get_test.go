package item_test

import (
	"bytes"
	"math/rand/v2"
	"reflect"
	"slices"
	"testing"

	"copse/api"
	"copse/bin"
	"copse/item"
)

// got is what a Get read: is it zero, and how is it written.
type got struct {
	zero  bool
	bytes []byte
}

// way is one of the Gets.
type way struct {
	name string
	get  func(r *bin.Reader) got
}

func tell[T any](x T, put func(b []byte, x T) []byte) got {
	return got{reflect.ValueOf(x).IsZero(), put(nil, x)}
}

func getSeen(dim int) func(r *bin.Reader) got {
	return func(r *bin.Reader) got {
		return tell(item.GetSeen(r, dim), func(b []byte, s api.Seen) []byte { return item.PutSeen(b, s, dim) })
	}
}

func getConf(r *bin.Reader) got  { return tell(item.GetConf(r), item.PutConf) }
func getScore(r *bin.Reader) got { return tell(item.GetScore(r), item.PutScore) }
func getAlert(r *bin.Reader) got { return tell(item.GetAlert(r), item.PutAlert) }
func getAsk(r *bin.Reader) got   { return tell(item.GetAsk(r), item.PutAsk) }

func ways() []way {
	return []way{{"conf", getConf}, {"score", getScore}, {"seen 1", getSeen(1)}, {"seen 3", getSeen(3)}, {"seen 8", getSeen(8)}, {"alert", getAlert}, {"ask", getAsk}}
}

// behind is a reader of some bytes, then b, then a byte, that stands before b.
func behind(b []byte) *bin.Reader {
	r := bin.From(slices.Concat([]byte{240, 250}, b, []byte{5}))
	r.U()
	return r
}

// stands fails if r does not stand behind b, without an error.
func stands(t *testing.T, r *bin.Reader, b []byte, what any) {
	t.Helper()
	if r.At() != 2+len(b) || r.Left() != 1 || r.Err() != api.OK {
		t.Error(what, b, r.At(), r.Left(), r.Err())
	}
}

// P22.3, P22.4: Get inverts Put.
func TestGet(t *testing.T) {
	for _, c := range confs() {
		b := item.PutConf(nil, c)
		r := behind(b)
		if g := item.GetConf(r); g != c {
			t.Error(c, g)
		}
		stands(t, r, b, c)
	}
	for _, s := range scores() {
		b := item.PutScore(nil, s)
		r := behind(b)
		if g := item.GetScore(r); g != s {
			t.Error(s, g)
		}
		stands(t, r, b, s)
	}
	for dim := 1; dim <= 8; dim++ {
		for _, s := range seens(dim) {
			b := item.PutSeen(nil, s, dim)
			r := behind(b)
			if g := item.GetSeen(r, dim); !sameSeen(g, s) {
				t.Error(s, g)
			}
			stands(t, r, b, s)
		}
	}
	for _, a := range alerts() {
		b := item.PutAlert(nil, a)
		r := behind(b)
		if g := item.GetAlert(r); g != a {
			t.Error(a, g)
		}
		stands(t, r, b, a)
	}
	for _, a := range asks() {
		b := item.PutAsk(nil, a)
		r := behind(b)
		if g := item.GetAsk(r); !sameAsk(g, a) {
			t.Error(a, g)
		}
		stands(t, r, b, a)
	}
}

// P22.3: items one after the other.
func TestGetInARow(t *testing.T) {
	s := api.Seen{Id: 9, X: []int{-7, 1000}, Score: of(5, 3), Scored: true}
	a := api.Alert{Seq: 4, Id: 9, Score: of(5, 3), Line: of(7, 4)}
	q := api.Ask{Kind: api.AskWhy, X: []int{3, 4}}
	b := item.PutAsk(item.PutAlert(item.PutSeen(item.PutScore(item.PutConf(nil, plain()), of(2, 7)), s, 2), a), q)
	r := bin.From(b)
	if c := item.GetConf(r); c != plain() {
		t.Error(c)
	}
	if g := item.GetScore(r); g != of(2, 7) {
		t.Error(g)
	}
	if g := item.GetSeen(r, 2); !sameSeen(g, s) {
		t.Error(g)
	}
	if g := item.GetAlert(r); g != a {
		t.Error(g)
	}
	if g := item.GetAsk(r); !sameAsk(g, q) {
		t.Error(g)
	}
	r.End()
	if r.Err() != api.OK {
		t.Error(r.Err())
	}
}

// fails fails if get reads something of b, or does not fail with e at the position at.
func fails(t *testing.T, get func(r *bin.Reader) got, b []byte, at int, e api.Errno) {
	t.Helper()
	r := bin.From(b)
	if g := get(r); !g.zero || r.Err() != e || r.At() != at {
		t.Error(b, g, r.Err(), r.At(), "not", e, at)
	}
	// It stays so.
	for _, w := range ways() {
		if g := w.get(r); !g.zero || r.Err() != e || r.At() != at {
			t.Error(b, w.name, g, r.Err(), r.At(), "not", e, at)
		}
	}
}

// numberWrong fails if get takes the numbers with one above limit in the place of the one at i, or with bytes that are no number's: the position is the one before them.
func numberWrong(t *testing.T, get func(r *bin.Reader) got, numbers []int, i, limit int) {
	t.Helper()
	at := len(numbersBytes(numbers[:i]...))
	for _, n := range []uint64{uint64(limit) + 1, uint64(limit) + 2, 1 << 62, 1 << 63, 1<<64 - 1} {
		b := append(bin.U(numbersBytes(numbers[:i]...), n), numbersBytes(numbers[i+1:]...)...)
		fails(t, get, b, at, api.ErrForm)
	}
	for _, s := range []string{"\xf0\x05", "\xf1\x00\xff", "\xf8", "\xff\xff"} {
		fails(t, get, append(numbersBytes(numbers[:i]...), s...), at, api.ErrForm)
	}
	for _, s := range []string{"", "\xf0", "\xf1\x01", "\xf7\xff\xff\xff\xff\xff\xff\xff"} {
		fails(t, get, append(numbersBytes(numbers[:i]...), s...), at, api.ErrShort)
	}
}

// P22.3
func TestGetConfErrors(t *testing.T) {
	good := []int{2, 256, 3, 8, 5, 2, 1, 10, 4, 3, 9}
	right, wrong := 0, 0
	for i := range good {
		numberWrong(t, getConf, good, i, id)
		for _, n := range []int{0, 1, 2, 3, 7, 8, 9, 16, 17, 64, 65, 256, 257, 1000, 1001, id - 1, id} {
			l := slices.Clone(good)
			l[i] = n
			b := numbersBytes(l...)
			r := bin.From(b)
			c := item.GetConf(r)
			want, e := confOf(l), api.OK
			if right++; !rightConf(want) {
				want, e, right, wrong = api.Conf{}, api.ErrForm, right-1, wrong+1
			}
			if c != want || r.Err() != e || r.At() != len(b) {
				t.Error(l, c, r.Err(), r.At())
			}
		}
	}
	if right < 50 || wrong < 50 {
		t.Error("seldom tested", right, wrong)
	}
}

// P22.3
func TestGetScoreErrors(t *testing.T) {
	numberWrong(t, getScore, []int{3, 2}, 0, sum)
	numberWrong(t, getScore, []int{3, 2}, 1, id)
	numberWrong(t, getScore, []int{sum, 2}, 1, id)
	for _, p := range []int{0, 1, 2, 3, 6, 15, 16, sum - 1, sum} {
		for _, q := range []int{0, 1, 2, 3, 4, 15, 16, 17, 32, id} {
			s := api.Score{P: p, Q: q}
			b := append(scoreBytes(s), 9)
			if !rightScore(s) {
				fails(t, getScore, b, len(b)-1, api.ErrForm)
				continue
			}
			r := bin.From(b)
			if g := item.GetScore(r); g != s || r.Err() != api.OK || r.At() != len(b)-1 {
				t.Error(s, g, r.Err(), r.At())
			}
		}
	}
}

// P22.3
func TestGetSeenErrors(t *testing.T) {
	for _, dim := range []int{0, -1, 9, 10, 300, least, most} {
		for _, b := range [][]byte{nil, {1}, {249}, {0, 0, 0}, {7, 2, 0}, bytes.Repeat([]byte{1}, 400)} {
			fails(t, getSeen(dim), b, 0, api.ErrForm)
			r := behind(b)
			if s := item.GetSeen(r, dim); !sameSeen(s, api.Seen{}) || r.Err() != api.ErrForm || r.At() != 2 {
				t.Error(dim, b, s, r.Err(), r.At())
			}
		}
	}
	// The flag, and P and Q of the score; the columns' bytes are those of numbers, too.
	scored := []int{7, 4, 3, 1, 3, 2}
	for i, limit := range map[int]int{0: id, 3: 1, 4: sum, 5: id} {
		numberWrong(t, getSeen(2), scored, i, limit)
	}
	numberWrong(t, getSeen(2), []int{7, 4, 3, 0}, 3, 1)
	for i := range 8 {
		b := append([]byte{7}, make([]byte, i)...)
		fails(t, getSeen(8), b, 1+i, api.ErrShort)
		fails(t, getSeen(8), append(slices.Clone(b), 240, 3), 1+i, api.ErrForm)
		fails(t, getSeen(8), append(slices.Clone(b), 255), 1+i, api.ErrForm)
	}
	for _, c := range []struct {
		b  []byte
		at int
	}{
		{[]byte{0, 4, 3, 0, 9}, 4},        // Id is 0
		{[]byte{0, 4, 3, 1, 3, 2, 9}, 6},  // and there is a score
		{[]byte{7, 4, 3, 1, 6, 4, 9}, 6},  // a score that is not reduced
		{[]byte{0, 4, 3, 1, 6, 4, 9}, 6},  // both
		{[]byte{7, 4, 3, 1, 3, 17, 9}, 6}, // Q is too great
		{[]byte{7, 4, 3, 1, 0, 0, 9}, 6},  // Q is 0
	} {
		fails(t, getSeen(2), c.b, c.at, api.ErrForm)
	}
	for _, n := range []int{1 << 31, -1<<31 - 1, least, most} {
		for _, x := range [][]int{{n, 0}, {0, n}, {n, n}} {
			b := bin.I(bin.I([]byte{7}, x[0]), x[1])
			fails(t, getSeen(2), append(slices.Clone(b), 0, 9), len(b)+1, api.ErrForm)
			fails(t, getSeen(2), append(slices.Clone(b), 1, 3, 2, 9), len(b)+3, api.ErrForm)
			// What is missing, or wrong by itself, comes first.
			fails(t, getSeen(2), b, len(b), api.ErrShort)
			fails(t, getSeen(2), append(slices.Clone(b), 2), len(b), api.ErrForm)
			fails(t, getSeen(2), append(slices.Clone(b), 1, 3), len(b)+2, api.ErrShort)
		}
	}
}

// P22.3
func TestGetAlertErrors(t *testing.T) {
	good := []int{1, 2, 1, 1, 3, 2}
	for i, limit := range []int{id, id, sum, id, sum, id} {
		numberWrong(t, getAlert, good, i, limit)
	}
	for _, c := range []struct {
		b  []byte
		at int
	}{
		{[]byte{0, 2, 1, 1, 3, 2, 9}, 6},  // Seq is 0
		{[]byte{1, 0, 1, 1, 3, 2, 9}, 6},  // Id is 0
		{[]byte{1, 2, 3, 2, 1, 1, 9}, 6},  // the score is above the line
		{[]byte{1, 2, 2, 2, 3, 2, 9}, 4},  // a score that is not reduced
		{[]byte{1, 2, 1, 0, 3, 2, 9}, 4},  // its Q is 0
		{[]byte{1, 2, 1, 17, 3, 2, 9}, 4}, // its Q is too great
		{[]byte{0, 0, 2, 2}, 4},           // it is found before what is missing
		{[]byte{1, 2, 1, 1, 6, 4, 9}, 6},  // a line that is not reduced
		{[]byte{1, 2, 1, 1, 0, 0, 9}, 6},  // its Q is 0
		{[]byte{0, 2, 1, 1, 6, 4, 9}, 6},  // Seq is 0, too
	} {
		fails(t, getAlert, c.b, c.at, api.ErrForm)
	}
}

// P22.3
func TestGetAskErrors(t *testing.T) {
	numberWrong(t, getAsk, []int{4, 5}, 0, id)
	numberWrong(t, getAsk, []int{4, 5}, 1, id)
	numberWrong(t, getAsk, []int{3, 5, 6}, 1, id)
	numberWrong(t, getAsk, []int{3, 5, 6}, 2, id)
	numberWrong(t, getAsk, []int{1, 5, 0}, 1, id)
	for _, kind := range []int{0, 8, 9, 10, 239, 240, 255, 256, 1<<32 + 1, id - 1, id} {
		b := numbersBytes(kind)
		fails(t, getAsk, b, len(b), api.ErrForm)
		fails(t, getAsk, append(slices.Clone(b), 1, 1, 1), len(b), api.ErrForm)
	}
	for _, before := range [][]byte{{1, 5}, {2}, {7}} {
		at := len(before)
		for _, c := range []struct {
			rest []byte
			e    api.Errno
		}{
			{nil, api.ErrShort},
			{[]byte{1}, api.ErrShort},
			{[]byte{8, 0, 0, 0, 0, 0, 0, 0}, api.ErrShort},
			{[]byte{9, 0, 0, 0, 0, 0, 0, 0, 0, 0}, api.ErrForm},
			{[]byte{9}, api.ErrForm},
			{[]byte{247, 255, 255, 255, 255, 255, 255, 255, 255}, api.ErrForm},
			{[]byte{2, 5, 248}, api.ErrForm},
			{[]byte{3, 5, 248}, api.ErrForm},
			{[]byte{2, 5, 240}, api.ErrShort},
		} {
			fails(t, getAsk, slices.Concat(before, c.rest), at, c.e)
		}
		// What is no vector's number is found at the end.
		for _, x := range [][]int{{1 << 31}, {-1<<31 - 1}, {least}, {most}, {0, 0, 1 << 31}, {1 << 31, 0, 0, 0, 0, 0, 0, 0}} {
			b := bin.Ints(before, x)
			fails(t, getAsk, append(b, 9), len(b), api.ErrForm)
		}
	}
}

// P22.3: bytes that end anywhere are too short, and the position is the one before the number, or the list, that is cut off.
func TestGetCut(t *testing.T) {
	for _, c := range []struct {
		get    func(r *bin.Reader) got
		b      []byte
		starts []int // where what is read at once begins
	}{
		{getConf, item.PutConf(nil, plain()), []int{0, 1, 4, 5, 6, 7, 8, 9, 10, 11, 12}},
		{getScore, item.PutScore(nil, of(257, 16)), []int{0, 3}},
		{getSeen(2), item.PutSeen(nil, api.Seen{Id: 300, X: []int{-1, 300}}, 2), []int{0, 3, 4, 7}},
		{getSeen(1), item.PutSeen(nil, api.Seen{Id: 7, X: []int{-1}, Score: of(300, 7), Scored: true}, 1), []int{0, 1, 2, 3, 6}},
		{getAlert, item.PutAlert(nil, api.Alert{Seq: 256, Id: 5, Score: of(1, 3), Line: of(240, 1)}), []int{0, 3, 4, 5, 6, 8}},
		{getAsk, item.PutAsk(nil, api.Ask{Kind: api.AskPut, Id: 256, X: []int{1, 200, -3}}), []int{0, 1, 4}},
		{getAsk, item.PutAsk(nil, api.Ask{Kind: api.AskScore, X: []int{1, 200, -3}}), []int{0, 1}},
		{getAsk, item.PutAsk(nil, api.Ask{Kind: api.AskWhy, X: nil}), []int{0, 1}},
		{getAsk, item.PutAsk(nil, api.Ask{Kind: api.AskAlerts, N: 256, M: 257}), []int{0, 1, 4}},
		{getAsk, item.PutAsk(nil, api.Ask{Kind: api.AskAck, N: id}), []int{0, 1}},
		{getAsk, item.PutAsk(nil, api.Ask{Kind: api.AskStats}), []int{0}},
	} {
		for size := range len(c.b) {
			at := 0
			for _, start := range c.starts {
				if start <= size {
					at = start
				}
			}
			fails(t, c.get, c.b[:size], at, api.ErrShort)
		}
		r := bin.From(c.b)
		if g := c.get(r); g.zero || r.Err() != api.OK || r.Left() != 0 {
			t.Error(c.b, g, r.Err(), r.Left())
		}
	}
}

// P22.3: a reader that has failed, or is nil, gives nothing, and keeps its error.
func TestGetFailed(t *testing.T) {
	good := [][]byte{item.PutConf(nil, plain()), {3, 2}, {7, 1, 0}, {1, 2, 1, 1, 3, 2}, {4, 5}, {5}, nil, bytes.Repeat([]byte{1}, 40)}
	for _, w := range append(ways(), way{"seen 0", getSeen(0)}, way{"seen 9", getSeen(9)}) {
		for _, b := range good {
			for _, e := range []api.Errno{api.ErrShort, api.ErrForm, api.ErrState, api.ErrArg} {
				r := bin.From(b)
				r.Fail(e)
				if g := w.get(r); !g.zero || r.Err() != e || r.At() != 0 {
					t.Error(w.name, b, e, g, r.Err(), r.At())
				}
			}
		}
		var r *bin.Reader
		if g := w.get(r); !g.zero || r.Err() != api.ErrShut {
			t.Error(w.name, g, r.Err())
		}
	}
}

// P22.3, P22.4: whatever the bytes are, Put inverts Get, and other bytes make the reader fail with what it may fail with.
func TestPutInvertsGet(t *testing.T) {
	random := rand.New(rand.NewPCG(22, 4))
	yes, no := map[string]int{}, map[string]int{}
	good := [][]byte{item.PutAlert(nil, alerts()[99]), item.PutAsk(nil, asks()[60]), item.PutSeen(nil, seens(3)[7], 3), item.PutSeen(nil, seens(8)[9], 8), item.PutSeen(nil, seens(1)[9], 1), item.PutConf(nil, plain())}
	for range 30000 {
		b := make([]byte, random.IntN(40))
		for i := range b {
			b[i] = []byte{byte(random.IntN(256)), byte(random.IntN(5)), byte(random.IntN(3))}[random.IntN(3)]
		}
		if random.IntN(2) > 0 {
			b = slices.Clone(good[random.IntN(len(good))])
			b[random.IntN(len(b))] = byte(random.IntN(256))
		}
		for _, w := range ways() {
			r := bin.From(b)
			g := w.get(r)
			if r.Err() != api.OK {
				no[w.name]++
				if !g.zero || r.Err() != api.ErrShort && r.Err() != api.ErrForm {
					t.Error(w.name, b, g, r.Err())
				}
				continue
			}
			yes[w.name]++
			if g.zero || !bytes.Equal(g.bytes, b[:r.At()]) {
				t.Error(w.name, b, g, r.At())
			}
		}
	}
	for _, w := range ways() {
		if yes[w.name] < 500 || no[w.name] < 500 {
			t.Error(w.name, "seldom tested", yes[w.name], no[w.name])
		}
	}
}

// P22.2, P22.3, R3: vectors are not changed, and what is read has memory of its own.
func TestMemory(t *testing.T) {
	x := []int{1, -2, 3, 77}
	s := api.Seen{Id: 7, X: x[:3]}
	a := api.Ask{Kind: api.AskPut, Id: 7, X: x[:3]}
	b := item.PutAsk(item.PutSeen(nil, s, 3), a)
	if !slices.Equal(x, []int{1, -2, 3, 77}) {
		t.Error(x)
	}
	r := bin.From(slices.Clone(b))
	g, h := item.GetSeen(r, 3), item.GetAsk(r)
	for i := range g.X[:cap(g.X)] {
		g.X[:cap(g.X)][i] = 5
	}
	if !slices.Equal(h.X, x[:3]) {
		t.Error(h)
	}
	r = bin.From(b)
	if g := item.GetSeen(r, 3); !sameSeen(g, s) {
		t.Error(g)
	}
}
