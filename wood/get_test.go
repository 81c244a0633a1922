package wood_test

import (
	"bytes"
	"math/rand/v2"
	"slices"
	"testing"

	"copse/api"
	"copse/bin"
	"copse/forest"
	"copse/tree"
	"copse/wood"
)

// reading reads by the words, node below node.
type reading struct {
	r *bin.Reader
}

func (s reading) failed() bool {
	return s.r.Err() != api.OK
}

// node is the nodes of a subtree whose root is at that depth.
func (s reading) node(dim, depth int) []api.Node {
	if depth > 6 {
		s.r.Fail(api.ErrForm)
	}
	size := s.r.N(64)
	if size > 0 || s.failed() {
		return end(size)
	}
	coef := make([]int, dim)
	for i := range coef {
		coef[i] = s.r.I()
	}
	at := s.r.I()
	left := s.node(dim, depth+1)
	right := s.node(dim, depth+1)
	return fork(coef, at, left, right)
}

func (s reading) tree() api.Tree {
	dim := s.r.N(8)
	if dim == 0 {
		s.r.Fail(api.ErrForm)
	}
	if s.failed() {
		return api.Tree{}
	}
	g := api.Tree{Dim: dim, Nodes: s.node(dim, 0)}
	if !tree.Is(g) {
		s.r.Fail(api.ErrForm)
	}
	if s.failed() {
		return api.Tree{}
	}
	return g
}

func (s reading) forest() []api.Grown {
	var f []api.Grown
	for range s.r.N(16) {
		born := s.r.N(count)
		f = append(f, api.Grown{Tree: s.tree(), Born: born})
	}
	if !forest.Is(f) {
		s.r.Fail(api.ErrForm)
	}
	if s.failed() {
		return nil
	}
	return f
}

// spoiled is b with some bytes changed, left out, put in or doubled.
func spoiled(random *rand.Rand, b []byte) []byte {
	b = slices.Clone(b)
	for range random.IntN(3) {
		at := random.IntN(len(b) + 1)
		piece := []byte{byte(random.IntN(10)), byte(random.IntN(256)), 0, 0}[random.IntN(4):]
		switch random.IntN(5) {
		case 0:
			b = b[:at]
		case 1:
			b = slices.Concat(b[:at], piece[:1], b[min(at+1, len(b)):])
		case 2:
			b = slices.Concat(b[:at], b[min(at+1+random.IntN(4), len(b)):])
		case 3:
			b = slices.Concat(b[:at], piece, b[at:])
		case 4:
			b = slices.Concat(b[:at], b[max(at-random.IntN(9), 0):])
		}
	}
	return b
}

// mixed is random bytes, most of which look like those of nodes.
func mixed(random *rand.Rand) []byte {
	b := []byte{byte(1 + random.IntN(3))}
	for range random.IntN(60) {
		b = append(b, []byte{0, 0, 0, 1, 2, 2, byte(random.IntN(256))}[random.IntN(7)])
	}
	return b
}

// P23.2, P23.3: bytes of all kinds; and Put inverts Get.
func TestGetOfMany(t *testing.T) {
	random := rand.New(rand.NewPCG(23, 3))
	l, all := trees(), forests()
	read, form, short := 0, 0, 0
	for i := range 60000 {
		var b []byte
		switch i % 3 {
		case 0:
			b = spoiled(random, treeBytes(l[random.IntN(len(l))]))
		case 1:
			b = spoiled(random, forestBytes(all[random.IntN(len(all))]))
		case 2:
			b = mixed(random)
		}
		if i%2 == 0 {
			b = append([]byte{byte(random.IntN(4)), 5}, b...)
		}
		before := slices.Clone(b)
		r, s := bin.From(b), reading{bin.From(b)}
		if g, want := wood.GetTree(r), s.tree(); !tree.Same(g, want) || r.At() != s.r.At() || r.Err() != s.r.Err() {
			t.Fatal(b, g, r.At(), r.Err(), "not", want, s.r.At(), s.r.Err())
		} else if r.Err() == api.OK && !bytes.Equal(wood.PutTree(nil, g), b[:r.At()]) {
			t.Fatal(b, g)
		}
		r, s = bin.From(b), reading{bin.From(b)}
		f, want := wood.GetForest(r), s.forest()
		if !forest.Same(f, want) || r.At() != s.r.At() || r.Err() != s.r.Err() {
			t.Fatal(b, f, r.At(), r.Err(), "not", want, s.r.At(), s.r.Err())
		}
		switch r.Err() {
		case api.OK:
			read++
			if !bytes.Equal(wood.PutForest(nil, f), b[:r.At()]) {
				t.Fatal(b, f)
			}
		case api.ErrForm:
			form++
		case api.ErrShort:
			short++
		}
		if !bytes.Equal(b, before) {
			t.Fatal("what was handed in was changed")
		}
	}
	if read < 3000 || form < 3000 || short < 3000 {
		t.Error("seldom tested:", read, form, short)
	}
}

// P23.2, P23.3: all bytes of a few small numbers.
func TestGetOfAllSmall(t *testing.T) {
	found := 0
	var fill func(b []byte)
	fill = func(b []byte) {
		r, s := bin.From(b), reading{bin.From(b)}
		if g, want := wood.GetTree(r), s.tree(); !tree.Same(g, want) || r.At() != s.r.At() || r.Err() != s.r.Err() {
			t.Fatal(b, g, r.At(), r.Err(), "not", want, s.r.At(), s.r.Err())
		} else if r.Err() == api.OK && r.Left() == 0 {
			found++
			if !bytes.Equal(wood.PutTree(nil, g), b) {
				t.Fatal(b, g)
			}
		}
		if len(b) < 8 {
			for c := range byte(4) {
				fill(append(b, c))
			}
		}
	}
	fill(make([]byte, 0, 8))
	// Leaves: 3 dimensions, 3 sizes. Two leaves of 9 pairs of sizes below a cut: 3 of 4 coefficients and 4 levels in dimension 1, 15 of 16 and 4 in dimension 2, 63 of 64 and 4 in dimension 3.
	if want := 3*3 + 9*4*(3+15+63); found != want {
		t.Error(found, want)
	}
}

// R3: what was read shares no memory with what is read later, or within itself.
func TestMemory(t *testing.T) {
	for _, f := range forests() {
		b := forestBytes(f)
		got, other := wood.GetForest(bin.From(b)), wood.GetForest(bin.From(b))
		for i, g := range got {
			for k, n := range g.Tree.Nodes {
				for c := range n.Cut.Coef[:cap(n.Cut.Coef)] {
					n.Cut.Coef[:cap(n.Cut.Coef)][c] = 1000*i + k
				}
			}
		}
		for i, g := range got {
			for k, n := range g.Tree.Nodes {
				for _, c := range n.Cut.Coef {
					if c != 1000*i+k {
						t.Fatal("two nodes share memory:", i, k)
					}
				}
				g.Tree.Nodes[k].Size = 99
			}
			got[i].Born = -1
		}
		if !forest.Same(other, f) || !bytes.Equal(b, forestBytes(f)) {
			t.Fatal("two answers share memory")
		}
	}
}
