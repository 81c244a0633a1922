package wood_test

import (
	"bytes"
	"math/rand/v2"
	"slices"
	"testing"

	"copse/api"
	"copse/bin"
	"copse/forest"
	"copse/num"
	"copse/tree"
	"copse/wood"
)

const (
	least = -1 << 63
	most  = 1<<63 - 1
	count = 1 << 40
	reach = 1 << 37
)

// end is the nodes of a leaf.
func end(size int) []api.Node {
	return []api.Node{{Size: size}}
}

// fork is the nodes of what a cut parts, as if the first one was the root.
func fork(coef []int, at int, left, right []api.Node) []api.Node {
	nodes := []api.Node{{Cut: api.Cut{Coef: slices.Clone(coef), At: at}, Left: 1, Right: 1 + len(left), Size: left[0].Size + right[0].Size}}
	for _, side := range [][]api.Node{left, right} {
		from := len(nodes)
		for _, n := range side {
			if n.Left != 0 {
				n.Left, n.Right = n.Left+from, n.Right+from
			}
			nodes = append(nodes, n)
		}
	}
	return nodes
}

// by is what a cut by the only column parts.
func by(level int, left, right []api.Node) []api.Node {
	return fork([]int{1}, level, left, right)
}

// full is the nodes of all cuts down to a depth, each of whose leaves has one point.
func full(depth, dim int) []api.Node {
	if depth == 0 {
		return end(1)
	}
	return fork(slices.Repeat([]int{-4}, dim), -reach, full(depth-1, dim), full(depth-1, dim))
}

// grown is the nodes of a random tree of so many points, from a depth on.
func grown(random *rand.Rand, dim, depth, limit, size int) []api.Node {
	if size == 1 || depth == limit || random.IntN(5) == 0 {
		return end(size)
	}
	coef := make([]int, dim)
	for i := range coef {
		coef[i] = random.IntN(9) - 4
	}
	coef[random.IntN(dim)] = 1 + random.IntN(4)
	at := (random.IntN(2*reach+1) - reach) >> random.IntN(38)
	left := 1 + random.IntN(size-1)
	return fork(coef, at, grown(random, dim, depth+1, limit, left), grown(random, dim, depth+1, limit, size-left))
}

// some is a random tree.
func some(random *rand.Rand, dim int) api.Tree {
	size := 1 + random.IntN([]int{2, 8, 64}[random.IntN(3)])
	return api.Tree{Dim: dim, Nodes: grown(random, dim, 0, num.Log(size), size)}
}

// trees is trees of each dimension.
func trees() []api.Tree {
	l := []api.Tree{
		{Dim: 1, Nodes: end(1)}, {Dim: 8, Nodes: end(64)}, {Dim: 1, Nodes: full(6, 1)}, {Dim: 8, Nodes: full(6, 8)}, {Dim: 3, Nodes: full(3, 3)},
		{Dim: 1, Nodes: by(3, by(2, end(1), end(1)), end(1))}, {Dim: 1, Nodes: by(3, end(1), by(4, end(1), end(1)))}, {Dim: 1, Nodes: by(reach, end(1), end(63))}, {Dim: 1, Nodes: by(-reach, end(63), end(1))},
		{Dim: 1, Nodes: by(6, by(5, by(4, by(3, by(2, by(1, end(1), end(1)), end(1)), end(1)), end(1)), end(1)), end(58))}, {Dim: 1, Nodes: by(1, end(58), by(2, end(1), by(3, end(1), by(4, end(1), by(5, end(1), by(6, end(1), end(1)))))))},
		{Dim: 2, Nodes: fork([]int{0, -4}, 0, end(2), fork([]int{4, 0}, 119, end(1), fork([]int{-1, 3}, -121, end(1), end(3))))},
	}
	random := rand.New(rand.NewPCG(23, 1))
	for i := range 400 {
		l = append(l, some(random, 1+i%8))
	}
	return l
}

// noTrees is what is no tree.
func noTrees() []api.Tree {
	return []api.Tree{
		{}, {Dim: 1}, {Nodes: end(1)}, {Dim: 9, Nodes: end(1)}, {Dim: -1, Nodes: end(1)}, {Dim: most, Nodes: end(1)}, {Dim: 1, Nodes: end(0)}, {Dim: 1, Nodes: end(65)}, {Dim: 1, Nodes: end(-1)}, {Dim: 1, Nodes: end(least)},
		{Dim: 1, Nodes: by(1, end(1), end(64))}, {Dim: 1, Nodes: by(reach+1, end(1), end(1))}, {Dim: 1, Nodes: by(least, end(1), end(1))}, {Dim: 2, Nodes: by(1, end(1), end(1))}, {Dim: 1, Nodes: fork([]int{0}, 1, end(1), end(1))}, {Dim: 1, Nodes: fork([]int{5}, 1, end(1), end(1))},
		{Dim: 1, Nodes: full(7, 1)}, {Dim: 1, Nodes: full(2, 1)[:6]}, {Dim: 1, Nodes: full(2, 1)[1:]}, {Dim: 1, Nodes: append(end(1), end(1)...)}, {Dim: 1, Nodes: by(1, end(1), by(2, end(1), by(3, end(1), end(1))))}, {Dim: 1, Nodes: []api.Node{{Left: most, Right: most, Size: 1}}}, {Dim: 1, Nodes: []api.Node{{Size: 1, Cut: api.Cut{At: 1}}}},
	}
}

// forests is forests of up to 16 trees.
func forests() [][]api.Grown {
	l := [][]api.Grown{nil, {}, {{Tree: api.Tree{Dim: 1, Nodes: end(1)}}}, {{Tree: api.Tree{Dim: 8, Nodes: full(6, 8)}, Born: count}}}
	births := []int{0, 1, 239, 240, 255, 256, 65535, 65536, count - 1, count}
	random := rand.New(rand.NewPCG(23, 2))
	for n := range 17 {
		for range 6 {
			var f []api.Grown
			dim := 1 + random.IntN(8)
			for range n {
				f = append(f, api.Grown{Tree: some(random, dim), Born: births[random.IntN(len(births))]})
			}
			l = append(l, f)
		}
	}
	return l
}

// noForests is what is no forest.
func noForests() [][]api.Grown {
	one := api.Grown{Tree: api.Tree{Dim: 1, Nodes: end(1)}, Born: 5}
	two := api.Grown{Tree: api.Tree{Dim: 2, Nodes: end(1)}, Born: 5}
	l := [][]api.Grown{slices.Repeat([]api.Grown{one}, 17), slices.Repeat([]api.Grown{one}, 300), {one, two}, {two, one}, {one, one, two}}
	for _, born := range []int{-1, least, count + 1, most} {
		l = append(l, []api.Grown{{Tree: one.Tree, Born: born}}, []api.Grown{one, {Tree: one.Tree, Born: born}})
	}
	for _, g := range noTrees() {
		l = append(l, []api.Grown{{Tree: g, Born: 5}}, []api.Grown{one, {Tree: g, Born: 5}}, []api.Grown{{Tree: g, Born: 5}, one})
	}
	return l
}

// number is the bytes of a number, signed those of a signed number.
func number(n uint64) []byte {
	if n < 240 {
		return []byte{byte(n)}
	}
	var l []byte
	for ; n > 0; n /= 256 {
		l = append([]byte{byte(n % 256)}, l...)
	}
	return append([]byte{byte(239 + len(l))}, l...)
}

func signed(n int) []byte {
	if n >= 0 {
		return number(2 * uint64(n))
	}
	return number(2*uint64(-n-1) + 1)
}

// parts is the bytes of a tree, number by number, by the words.
func parts(t api.Tree) [][]byte {
	l := [][]byte{number(uint64(t.Dim))}
	for _, n := range t.Nodes {
		if n.Left == 0 {
			l = append(l, number(uint64(n.Size)))
			continue
		}
		l = append(l, []byte{0})
		for _, c := range n.Cut.Coef {
			l = append(l, signed(c))
		}
		l = append(l, signed(n.Cut.At))
	}
	return l
}

func treeBytes(t api.Tree) []byte {
	return slices.Concat(parts(t)...)
}

func forestBytes(f []api.Grown) []byte {
	b := number(uint64(len(f)))
	for _, g := range f {
		b = slices.Concat(b, number(uint64(g.Born)), treeBytes(g.Tree))
	}
	return b
}

// puts fails if put doesn't answer b followed by want, in new memory, and leave b and what is behind it.
func puts(t *testing.T, put func(b []byte) []byte, want []byte, what any) {
	t.Helper()
	for _, size := range []int{0, 1, 300} {
		whole := bytes.Repeat([]byte{77}, 400)
		b := whole[:size]
		got := put(b)
		if !bytes.Equal(got, append(slices.Clone(b), want...)) {
			t.Error(what, size, got, want)
		}
		for i := range got[:cap(got)] {
			got[:cap(got)][i] = 99
		}
		if !bytes.Equal(whole, bytes.Repeat([]byte{77}, 400)) {
			t.Error(what, size, "b is changed, or shares memory")
		}
	}
	if got := put(nil); !bytes.Equal(got, want) {
		t.Error(what, got, want)
	}
}

// copied is t in memory of its own.
func copied(t api.Tree) api.Tree {
	t.Nodes = slices.Clone(t.Nodes)
	for i, n := range t.Nodes {
		t.Nodes[i].Cut.Coef = slices.Clone(n.Cut.Coef)
	}
	return t
}

func copiedAll(f []api.Grown) []api.Grown {
	f = slices.Clone(f)
	for i, g := range f {
		f[i].Tree = copied(g.Tree)
	}
	return f
}

// P23.1: the words' bytes, written out.
func TestPutExamples(t *testing.T) {
	for i, c := range []struct {
		g    api.Tree
		want []byte
	}{
		{api.Tree{Dim: 1, Nodes: by(3, end(2), end(1))}, []byte{1, 0, 2, 6, 2, 1}},
		{api.Tree{Dim: 1, Nodes: by(3, by(2, end(1), end(1)), end(1))}, []byte{1, 0, 2, 6, 0, 2, 4, 1, 1, 1}},
		{api.Tree{Dim: 1, Nodes: by(3, end(1), by(2, end(1), end(1)))}, []byte{1, 0, 2, 6, 1, 0, 2, 4, 1, 1}},
		{api.Tree{Dim: 8, Nodes: end(64)}, []byte{8, 64}},
		{api.Tree{Dim: 2, Nodes: fork([]int{-4, 4}, -1, end(1), end(63))}, []byte{2, 0, 7, 8, 1, 1, 63}},
		{api.Tree{Dim: 1, Nodes: by(reach, end(1), end(1))}, []byte{1, 0, 2, 244, 64, 0, 0, 0, 0, 1, 1}},
		{api.Tree{Dim: 1, Nodes: by(-reach, end(1), end(1))}, []byte{1, 0, 2, 244, 63, 255, 255, 255, 255, 1, 1}},
		{api.Tree{Dim: 1, Nodes: []api.Node{{Cut: api.Cut{Coef: []int{}}, Size: 3}}}, []byte{1, 3}},
	} {
		puts(t, func(b []byte) []byte { return wood.PutTree(b, c.g) }, c.want, i)
		if i > 0 {
			continue
		}
		f := []api.Grown{{Tree: c.g, Born: 7}, {Tree: api.Tree{Dim: 1, Nodes: end(9)}, Born: 256}}
		puts(t, func(b []byte) []byte { return wood.PutForest(b, f) }, []byte{2, 7, 1, 0, 2, 6, 2, 1, 241, 1, 0, 1, 9}, f)
		f[1].Born = count
		puts(t, func(b []byte) []byte { return wood.PutForest(b, f[1:]) }, []byte{1, 245, 1, 0, 0, 0, 0, 0, 1, 9}, f)
	}
	for _, f := range [][]api.Grown{nil, {}} {
		puts(t, func(b []byte) []byte { return wood.PutForest(b, f) }, []byte{0}, f)
	}
}

// P23.1, R3
func TestPut(t *testing.T) {
	for _, g := range trees() {
		before := copied(g)
		puts(t, func(b []byte) []byte { return wood.PutTree(b, g) }, treeBytes(g), g)
		if !tree.Same(g, before) {
			t.Error("what was handed in was changed")
		}
	}
	for _, f := range forests() {
		before := copiedAll(f)
		puts(t, func(b []byte) []byte { return wood.PutForest(b, f) }, forestBytes(f), f)
		if !forest.Same(f, before) {
			t.Error("what was handed in was changed")
		}
	}
}

// P23.1: b alone.
func TestPutWrong(t *testing.T) {
	for _, g := range noTrees() {
		puts(t, func(b []byte) []byte { return wood.PutTree(b, g) }, nil, g)
	}
	for _, f := range noForests() {
		puts(t, func(b []byte) []byte { return wood.PutForest(b, f) }, nil, f)
	}
}

// behind is a reader of some bytes, then b, then a byte, that stands before b.
func behind(b []byte) *bin.Reader {
	r := bin.From(slices.Concat([]byte{240, 250}, b, []byte{5}))
	r.U()
	return r
}

// stands fails if r does not stand behind b, without an error.
func stands(t *testing.T, r *bin.Reader, b []byte, what any) {
	t.Helper()
	if r.At() != 2+len(b) || r.Left() != 1 || r.Err() != api.OK {
		t.Error(what, b, r.At(), r.Left(), r.Err())
	}
}

// P23.2, P23.3: Get inverts Put.
func TestGet(t *testing.T) {
	for _, g := range trees() {
		b := treeBytes(g)
		r := behind(b)
		if got := wood.GetTree(r); !tree.Same(got, g) {
			t.Error(g, got)
		}
		stands(t, r, b, g)
	}
	for _, f := range forests() {
		b := forestBytes(f)
		r := behind(b)
		if got := wood.GetForest(r); !forest.Same(got, f) {
			t.Error(f, got)
		}
		stands(t, r, b, f)
	}
}

// P23.2: one after the other.
func TestGetInARow(t *testing.T) {
	all, l := forests(), trees()
	var b []byte
	for i, f := range all {
		b = wood.PutTree(wood.PutForest(b, f), l[i])
	}
	r := bin.From(b)
	for i, f := range all {
		if got := wood.GetForest(r); !forest.Same(got, f) {
			t.Error(f, got)
		}
		if got := wood.GetTree(r); !tree.Same(got, l[i]) {
			t.Error(l[i], got)
		}
	}
	if r.Left() != 0 || r.Err() != api.OK {
		t.Error(r.Left(), r.Err())
	}
}

// isZero reports whether nothing was read.
func isZero(g api.Tree) bool {
	return g.Dim == 0 && len(g.Nodes) == 0
}

// stays fails if r reads anything, or has not failed with e at the position at.
func stays(t *testing.T, r *bin.Reader, at int, e api.Errno, what any) {
	t.Helper()
	for range 2 {
		if r.At() != at || r.Err() != e {
			t.Error(what, r.At(), r.Err(), "not", at, e)
		}
		if g, f := wood.GetTree(r), wood.GetForest(r); !isZero(g) || f != nil {
			t.Error(what, g, f)
		}
	}
}

// fails fails if GetTree reads something of b, or does not make the reader fail with e at the position at; and likewise for a forest with that tree behind another one.
func fails(t *testing.T, b []byte, at int, e api.Errno) {
	t.Helper()
	r := bin.From(b)
	if g := wood.GetTree(r); !isZero(g) {
		t.Error(b, g)
	}
	stays(t, r, at, e, b)
	for _, before := range [][]byte{{1, 7}, {2, 240, 255, 1, 3, 0}} {
		forestFails(t, append(slices.Clone(before), b...), len(before)+at, e)
	}
}

// forestFails is fails for a forest.
func forestFails(t *testing.T, b []byte, at int, e api.Errno) {
	t.Helper()
	r := bin.From(b)
	if f := wood.GetForest(r); f != nil {
		t.Error(b, f)
	}
	stays(t, r, at, e, b)
}

// P23.2: bytes that end too early, or are no number's, in the place of each number.
func TestGetNoNumbers(t *testing.T) {
	for _, g := range trees()[:60] {
		l := parts(g)
		for i := range l {
			before := slices.Concat(l[:i]...)
			for _, s := range []string{"", "\xf0", "\xf1\x01", "\xf7\xff\xff\xff\xff\xff\xff\xff"} {
				fails(t, append(slices.Clone(before), s...), len(before), api.ErrShort)
			}
			for _, s := range []string{"\xf0\x05", "\xf1\x00\xff", "\xf8", "\xff\xff"} {
				fails(t, append(slices.Clone(before), s...), len(before), api.ErrForm)
			}
		}
	}
}

// P23.2: each number of a forest cut short.
func TestGetForestShort(t *testing.T) {
	for _, f := range forests()[:40] {
		b := forestBytes(f)
		ends := []int{0, 1}
		for _, g := range f {
			ends = append(ends, ends[len(ends)-1]+len(number(uint64(g.Born))))
			for _, part := range parts(g.Tree) {
				ends = append(ends, ends[len(ends)-1]+len(part))
			}
		}
		at := 0
		for n := range b {
			for ends[at+1] <= n {
				at++
			}
			forestFails(t, b[:n], ends[at], api.ErrShort)
		}
	}
}

// P23.2: numbers above their limits, each before what follows it.
func TestGetNumbersAbove(t *testing.T) {
	for _, n := range []uint64{9, 10, 239, 240, 256, 1 << 63, 1<<64 - 1} {
		fails(t, append(number(n), 1, 1), 0, api.ErrForm)
	}
	for _, n := range []uint64{65, 66, 239, 240, 256, 1 << 63, 1<<64 - 1} {
		for _, before := range [][]byte{{1}, {8}, {1, 0, 2, 6}, {1, 0, 2, 6, 1}, {2, 0, 2, 4, 6, 0, 2, 4, 6, 1}} {
			fails(t, slices.Concat(before, number(n), []byte{1, 1, 1}), len(before), api.ErrForm)
		}
	}
	for _, n := range []uint64{17, 18, 239, 240, 256, 1 << 63, 1<<64 - 1} {
		forestFails(t, append(number(n), 1, 1, 1, 1, 1, 1), 0, api.ErrForm)
	}
	for _, n := range []uint64{count + 1, count + 2, 1 << 62, 1 << 63, 1<<64 - 1} {
		for _, before := range [][]byte{{1}, {2}, {2, 7, 1, 3}, {16, 7, 1, 0, 2, 6, 2, 1}} {
			forestFails(t, slices.Concat(before, number(n), []byte{1, 1}), len(before), api.ErrForm)
		}
	}
}

// P23.2: Dim is 0.
func TestGetDimNone(t *testing.T) {
	for _, rest := range [][]byte{nil, {1}, {0, 6, 1, 1}, {255}, {240, 1}} {
		fails(t, append([]byte{0}, rest...), 1, api.ErrForm)
	}
}

// P23.2: a node that would be deeper than 6 is not read, whatever follows, on the left, on the right, and on both sides in turn.
func TestGetTooDeep(t *testing.T) {
	for sides := range 1 << 6 {
		for _, dim := range []int{1, 2, 8} {
			b := []byte{byte(dim)}
			for i := range 7 {
				b = append(b, 0)
				b = append(b, bytes.Repeat([]byte{2}, dim+1)...)
				if i < 6 && sides>>i&1 > 0 {
					b = append(b, 1)
				}
			}
			for _, rest := range [][]byte{nil, {1}, {0}, {65}, {255}, {240}, {1, 1, 1, 1, 1, 1, 1, 1}} {
				fails(t, append(slices.Clone(b), rest...), len(b), api.ErrForm)
			}
		}
	}
	// Behind a whole subtree, too.
	b := append([]byte{1, 0, 2, 0}, treeBytes(api.Tree{Dim: 1, Nodes: full(5, 1)})[1:]...)
	for range 6 {
		b = append(b, 0, 2, 0)
	}
	fails(t, append(slices.Clone(b), 1, 1), len(b), api.ErrForm)
}

// P23.2: what was read is no tree; that is told at the end.
func TestGetNoTree(t *testing.T) {
	leaf := []byte{1, 1}
	for _, n := range []int{0, -5, 5, 100, -100, 1 << 40, least, most} {
		b := slices.Concat([]byte{1, 0}, signed(n), []byte{6}, leaf)
		fails(t, b, len(b), api.ErrForm)
		fails(t, append(b, 1, 9), len(b), api.ErrForm)
		b = slices.Concat([]byte{3, 0, 2}, signed(n), []byte{0, 6}, leaf)
		if n < -4 || n > 4 {
			fails(t, append(b, 1, 9), len(b), api.ErrForm)
			// What is missing, or no number, comes before it.
			fails(t, b[:len(b)-1], len(b)-1, api.ErrShort)
			fails(t, append(slices.Clone(b[:len(b)-1]), 65), len(b)-1, api.ErrForm)
			fails(t, append(slices.Clone(b[:len(b)-1]), 255), len(b)-1, api.ErrForm)
		}
	}
	for _, at := range []int{reach + 1, -reach - 1, 1 << 50, least, most} {
		b := slices.Concat([]byte{1, 0, 2}, signed(at), leaf)
		fails(t, append(b, 9), len(b), api.ErrForm)
	}
	for _, nodes := range [][]byte{
		{0, 2, 6, 1, 64}, {0, 2, 6, 64, 1}, {0, 2, 6, 64, 64}, {0, 2, 6, 0, 2, 6, 22, 21, 22}, // more than 64 points
		{0, 2, 6, 0, 2, 6, 0, 2, 6, 1, 1, 1, 1}, {0, 2, 6, 1, 0, 2, 6, 1, 0, 2, 6, 1, 1}, {0, 2, 6, 1, 0, 2, 6, 0, 2, 6, 1, 1, 1}, // too deep for 4 points
	} {
		b := append([]byte{1}, nodes...)
		fails(t, append(b, 9), len(b), api.ErrForm)
	}
	// 64 leaves, of 65 points, and of far more.
	b := treeBytes(api.Tree{Dim: 1, Nodes: full(6, 1)})
	b[len(b)-1] = 2
	fails(t, append(slices.Clone(b), 9), len(b), api.ErrForm)
	sizes := full(6, 1)
	for i, n := range sizes {
		if n.Left == 0 {
			sizes[i].Size = 64
		}
	}
	b = treeBytes(api.Tree{Dim: 1, Nodes: sizes})
	fails(t, append(slices.Clone(b), 9), len(b), api.ErrForm)
}

// P23.2: each tree is one, but they are no forest; that is told at the end.
func TestGetNoForest(t *testing.T) {
	for _, b := range [][]byte{{2, 7, 1, 3, 7, 2, 3}, {2, 7, 2, 3, 7, 1, 3}, {3, 7, 1, 3, 7, 1, 3, 7, 2, 3}, {3, 7, 8, 3, 7, 1, 3, 7, 8, 3}, {2, 0, 1, 0, 2, 6, 2, 1, 0, 2, 0, 2, 4, 6, 2, 1}} {
		forestFails(t, b, len(b), api.ErrForm)
		forestFails(t, append(slices.Clone(b), 9, 9), len(b), api.ErrForm)
		forestFails(t, b[:len(b)-1], len(b)-1, api.ErrShort)
	}
	// A tree that is none is told at its own end.
	forestFails(t, []byte{3, 7, 2, 3, 7, 1, 0, 10, 0, 1, 1, 7, 2, 3}, 11, api.ErrForm)
	forestFails(t, []byte{3, 7, 2, 3, 7, 0, 7, 2, 3}, 6, api.ErrForm)
}

// P23.2: readers that have failed, or are nil.
func TestGetFailed(t *testing.T) {
	b := append(treeBytes(trees()[5]), forestBytes(forests()[20])...)
	for _, e := range []api.Errno{api.ErrShort, api.ErrForm, api.ErrSum} {
		r := behind(b)
		r.Fail(e)
		stays(t, r, 2, e, e)
	}
	var none *bin.Reader
	stays(t, none, 0, api.ErrShut, "nil")
	for range 2 {
		if g := wood.GetTree(nil); !isZero(g) {
			t.Error(g)
		}
		if f := wood.GetForest(nil); f != nil {
			t.Error(f)
		}
	}
}
