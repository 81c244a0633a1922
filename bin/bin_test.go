package bin_test

import (
	"bytes"
	"fmt"
	"math/rand/v2"
	"slices"
	"testing"

	"copse/api"
	"copse/bin"
)

const (
	least    = -1 << 63
	most     = 1<<63 - 1
	greatest = 1<<64 - 1
)

// bytesOf is the bytes of a number, by the words.
func bytesOf(n uint64) []byte {
	if n < 240 {
		return []byte{byte(n)}
	}
	var l []byte
	for ; n > 0; n /= 256 {
		l = append([]byte{byte(n % 256)}, l...)
	}
	return append([]byte{byte(239 + len(l))}, l...)
}

// bytesOfSigned is the bytes of a signed number, by the words.
func bytesOfSigned(n int) []byte {
	if n >= 0 {
		return bytesOf(2 * uint64(n))
	}
	return bytesOf(2*uint64(-n-1) + 1)
}

func bytesOfInts(l []int) []byte {
	b := bytesOf(uint64(len(l)))
	for _, n := range l {
		b = append(b, bytesOfSigned(n)...)
	}
	return b
}

func bytesOfText(s []byte) []byte {
	return append(bytesOf(uint64(len(s))), s...)
}

// numbers is numbers of each size, with those at which the size changes.
func numbers() []uint64 {
	l := []uint64{greatest, greatest - 1, 1 << 63, 1<<63 - 1, 1<<63 + 1}
	for n := range uint64(600) {
		l = append(l, n)
	}
	for i := range 64 {
		l = append(l, 1<<i-1, 1<<i, 1<<i+1, 1<<i+239, 3<<i)
	}
	random := rand.New(rand.NewPCG(21, 1))
	for range 1000 {
		l = append(l, random.Uint64()>>random.IntN(64))
	}
	return l
}

func signedNumbers() []int {
	l := []int{least, least + 1, most, most - 1}
	for _, n := range numbers() {
		l = append(l, int(n), -int(n))
	}
	return l
}

func texts() [][]byte {
	l := [][]byte{nil, {}, {0}, {255}, []byte("xyz"), {240, 1, 248}}
	for _, n := range []int{1, 2, 238, 239, 240, 241, 255, 256, 257, 65535, 65536} {
		s := make([]byte, n)
		for i := range s {
			s[i] = byte(i * 7)
		}
		l = append(l, s)
	}
	return l
}

func lists() [][]int {
	l := [][]int{nil, {}, {0}, {-1}, {1, -5, 300}, {least, most}, {most, least, 0}}
	for _, n := range []int{1, 2, 239, 240, 255, 256, 1000} {
		s := make([]int, n)
		for i := range s {
			s[i] = (i - 100) * (i*i + 1)
		}
		l = append(l, s)
	}
	return l
}

// P21.1: the words' and the example's bytes, written out.
func TestBytes(t *testing.T) {
	for n, want := range map[uint64][]byte{
		0: {0}, 1: {1}, 100: {100}, 239: {239}, 240: {240, 240}, 241: {240, 241}, 255: {240, 255}, 256: {241, 1, 0}, 257: {241, 1, 1}, 65535: {241, 255, 255}, 65536: {242, 1, 0, 0}, 1<<24 - 1: {242, 255, 255, 255}, 1 << 24: {243, 1, 0, 0, 0},
		0x0102030405: {244, 1, 2, 3, 4, 5}, 0x010203040506: {245, 1, 2, 3, 4, 5, 6}, 0x01020304050607: {246, 1, 2, 3, 4, 5, 6, 7}, 0x0102030405060708: {247, 1, 2, 3, 4, 5, 6, 7, 8}, 1 << 56: {247, 1, 0, 0, 0, 0, 0, 0, 0}, greatest: {247, 255, 255, 255, 255, 255, 255, 255, 255},
	} {
		if b := bin.U(nil, n); !bytes.Equal(b, want) {
			t.Error(n, b)
		}
	}
	for n, want := range map[int][]byte{0: {0}, -1: {1}, 1: {2}, -2: {3}, 2: {4}, 119: {238}, -120: {239}, 120: {240, 240}, -121: {240, 241}, -128: {240, 255}, 128: {241, 1, 0}, most: {247, 255, 255, 255, 255, 255, 255, 255, 254}, least: {247, 255, 255, 255, 255, 255, 255, 255, 255}} {
		if b := bin.I(nil, n); !bytes.Equal(b, want) {
			t.Error(n, b)
		}
	}
	if b := bin.Text(nil, []byte("xyz")); !bytes.Equal(b, []byte{3, 'x', 'y', 'z'}) {
		t.Error(b)
	}
	if b := bin.Ints(nil, []int{1, -5, 300}); !bytes.Equal(b, []byte{3, 2, 9, 241, 2, 88}) {
		t.Error(b)
	}
	for _, b := range [][]byte{bin.Text(nil, nil), bin.Text(nil, []byte{}), bin.Ints(nil, nil), bin.Ints(nil, []int{})} {
		if !bytes.Equal(b, []byte{0}) {
			t.Error(b)
		}
	}
}

// P21.1: behind any b.
func TestWrite(t *testing.T) {
	for _, before := range [][]byte{nil, {}, {7}, {240, 0, 255}, make([]byte, 300)} {
		says := func(got, want []byte, what any) {
			t.Helper()
			if !bytes.Equal(got, append(slices.Clone(before), want...)) {
				t.Error(before, what, got)
			}
		}
		for _, n := range numbers() {
			says(bin.U(before, n), bytesOf(n), n)
		}
		for _, n := range signedNumbers() {
			says(bin.I(before, n), bytesOfSigned(n), n)
		}
		for _, s := range texts() {
			says(bin.Text(before, s), bytesOfText(s), s)
		}
		for _, l := range lists() {
			says(bin.Ints(before, l), bytesOfInts(l), l)
		}
	}
}

// P21.1, R3: neither what is passed nor the room behind it changes, and what comes out is new memory.
func TestWriteMemory(t *testing.T) {
	for _, size := range []int{0, 1, 5, 40} {
		whole := bytes.Repeat([]byte{77}, 400)
		b := whole[:size]
		s, l := []byte("abc")[:2], []int{5, -300, 9}[:2]
		writes := []func() []byte{
			func() []byte { return bin.U(b, 5) },
			func() []byte { return bin.U(b, greatest) },
			func() []byte { return bin.I(b, -5) },
			func() []byte { return bin.I(b, least) },
			func() []byte { return bin.Text(b, s) },
			func() []byte { return bin.Text(b, nil) },
			func() []byte { return bin.Ints(b, l) },
			func() []byte { return bin.Ints(b, nil) },
		}
		for i, write := range writes {
			got := write()
			for k := range got[:cap(got)] {
				got[:cap(got)][k] = 99
			}
			if !bytes.Equal(whole, bytes.Repeat([]byte{77}, 400)) || string(s[:3]) != "abc" || !slices.Equal(l[:3], []int{5, -300, 9}) {
				t.Fatal(size, i, whole, s, l)
			}
			if first, second := write(), write(); !bytes.Equal(first, second) {
				t.Error(size, i, first, second)
			}
		}
	}
	// A part of b itself as the text.
	b := []byte("abcdef")
	if got := bin.Text(b[:2], b[1:5]); string(got) != "ab\x04bcde" || string(b) != "abcdef" {
		t.Error(got, b)
	}
}

// stands fails if r is not at the position at, with the error e.
func stands(t *testing.T, r *bin.Reader, size, at int, e api.Errno, what ...any) {
	t.Helper()
	if r.At() != at || r.Left() != size-at || r.Err() != e {
		t.Error(what, r.At(), r.Left(), r.Err(), "not", at, size-at, e)
	}
}

// idle fails if a reader that has failed reads something, or changes.
func idle(t *testing.T, r *bin.Reader, what ...any) {
	t.Helper()
	at, left, e := r.At(), r.Left(), r.Err()
	if n := r.U(); n != 0 {
		t.Error(what, n)
	}
	for _, most := range []int{most, 1, 0, -1, least} {
		if n, s, l := r.N(most), r.Text(most), r.Ints(most); n != 0 || len(s) != 0 || len(l) != 0 {
			t.Error(what, n, s, l)
		}
	}
	if n := r.I(); n != 0 {
		t.Error(what, n)
	}
	r.End()
	for _, other := range []api.Errno{api.OK, api.ErrForm, api.ErrShort, api.ErrArg, api.ErrShut} {
		r.Fail(other)
	}
	if r.At() != at || r.Left() != left || r.Err() != e {
		t.Error(what, "changed", r.At(), r.Left(), r.Err(), "from", at, left, e)
	}
}

// P21.2
func TestReadNumbers(t *testing.T) {
	for _, n := range numbers() {
		b := append(append([]byte{9}, bytesOf(n)...), 5)
		r := bin.From(b)
		stands(t, r, len(b), 0, api.OK, n)
		if r.U() != 9 {
			t.Error(n)
		}
		if got := r.U(); got != n {
			t.Error(n, got)
		}
		stands(t, r, len(b), len(b)-1, api.OK, n)
		if r.U() != 5 {
			t.Error(n)
		}
		r.End()
		stands(t, r, len(b), len(b), api.OK, n)
	}
	for _, n := range signedNumbers() {
		b := append(bytesOfSigned(n), 1)
		r := bin.From(b)
		if got := r.I(); got != n {
			t.Error(n, got)
		}
		stands(t, r, len(b), len(b)-1, api.OK, n)
		if got := r.I(); got != -1 {
			t.Error(n, got)
		}
		stands(t, r, len(b), len(b), api.OK, n)
	}
}

// wrongNumbers is bytes that no number's bytes begin with, and the error.
func wrongNumbers() map[string]api.Errno {
	m := map[string]api.Errno{"": api.ErrShort, "\xf0\xef": api.ErrForm, "\xf0\x00": api.ErrForm, "\xf1\x00\xff": api.ErrForm, "\xf1\x00\xf0": api.ErrForm, "\xf1\x00\x00": api.ErrForm}
	for first := 248; first < 256; first++ {
		for _, rest := range []string{"", "\x01", "\xff\xff\xff\xff\xff\xff\xff\xff\xff", string(make([]byte, 20))} {
			m[string([]byte{byte(first)})+rest] = api.ErrForm
		}
	}
	for size := 1; size <= 8; size++ {
		for _, fill := range []byte{0, 1, 239, 240, 255} {
			b := append([]byte{byte(239 + size)}, bytes.Repeat([]byte{fill}, size)...)
			for n := 1; n <= size; n++ {
				// Short is told first, even if what is there is not as it must be.
				m[string(b[:n])] = api.ErrShort
			}
			if size > 1 {
				b[1] = 0
				m[string(b)] = api.ErrForm
				m[string(b)+"\x01"] = api.ErrForm
			}
		}
	}
	for n := range 240 {
		m[string([]byte{240, byte(n)})] = api.ErrForm
		m[string([]byte{240, byte(n), 250})] = api.ErrForm
	}
	return m
}

// P21.2: each way to read a number fails alike, at the start and further on.
func TestReadWrongNumbers(t *testing.T) {
	reads := []func(r *bin.Reader) bool{
		func(r *bin.Reader) bool { return r.U() == 0 },
		func(r *bin.Reader) bool { return r.I() == 0 },
		func(r *bin.Reader) bool { return r.N(most) == 0 },
		func(r *bin.Reader) bool { return r.N(0) == 0 },
		func(r *bin.Reader) bool { return r.N(-1) == 0 },
		func(r *bin.Reader) bool { return len(r.Text(most)) == 0 },
		func(r *bin.Reader) bool { return len(r.Text(-1)) == 0 },
		func(r *bin.Reader) bool { return len(r.Ints(most)) == 0 },
		func(r *bin.Reader) bool { return len(r.Ints(least)) == 0 },
	}
	for s, e := range wrongNumbers() {
		for i, read := range reads {
			for _, before := range [][]byte{nil, {4}, {240, 240}} {
				b := append(slices.Clone(before), s...)
				r := bin.From(b)
				if len(before) > 0 {
					r.U()
				}
				if !read(r) {
					t.Error(i, before, []byte(s), "something was read")
				}
				stands(t, r, len(b), len(before), e, i, before, []byte(s))
				idle(t, r, i, before, []byte(s))
			}
		}
	}
}

// P21.2
func TestReadUpTo(t *testing.T) {
	for _, n := range numbers() {
		b := bytesOf(n)
		limits := []int{least, -1, 0, 1, 239, 240, 1 << 40, most - 1, most}
		if n <= most {
			limits = append(limits, int(n)-1, int(n), -int(n))
		}
		for _, limit := range limits {
			r := bin.From(b)
			got := r.N(limit)
			if limit >= 0 && n <= uint64(limit) {
				if got != int(n) {
					t.Error(n, limit, got)
				}
				stands(t, r, len(b), len(b), api.OK, n, limit)
				continue
			}
			if got != 0 {
				t.Error(n, limit, got)
			}
			stands(t, r, len(b), 0, api.ErrForm, n, limit)
			idle(t, r, n, limit)
		}
	}
}

// P21.2
func TestReadTexts(t *testing.T) {
	for _, s := range texts() {
		b := append(append([]byte{3}, bytesOfText(s)...), 8)
		for _, limit := range []int{len(s), len(s) + 1, most} {
			r := bin.From(b)
			r.U()
			if got := r.Text(limit); !bytes.Equal(got, s) {
				t.Error(s, limit, got)
			}
			stands(t, r, len(b), len(b)-1, api.OK, len(s), limit)
		}
		for _, limit := range []int{len(s) - 1, -1, least} {
			r := bin.From(b)
			r.U()
			if got := r.Text(limit); len(got) != 0 {
				t.Error(s, limit, got)
			}
			stands(t, r, len(b), 1, api.ErrForm, len(s), limit)
			idle(t, r, len(s), limit)
		}
		// Cut off anywhere, it is too short.
		for cut := 1; cut < len(b)-1; cut += 1 + cut/50 {
			r := bin.From(b[:cut])
			r.U()
			if got := r.Text(len(s)); len(got) != 0 {
				t.Error(s, cut, got)
			}
			stands(t, r, cut, 1, api.ErrShort, len(s), cut)
		}
	}
}

// P21.2: after an error the position is the one before the list.
func TestReadInts(t *testing.T) {
	for _, l := range lists() {
		b := append(append([]byte{3}, bytesOfInts(l)...), 8)
		for _, limit := range []int{len(l), len(l) + 1, most} {
			r := bin.From(b)
			r.U()
			if got := r.Ints(limit); !slices.Equal(got, l) {
				t.Error(l, limit, got)
			}
			stands(t, r, len(b), len(b)-1, api.OK, l, limit)
		}
		for _, limit := range []int{len(l) - 1, -1, least} {
			r := bin.From(b)
			r.U()
			if got := r.Ints(limit); len(got) != 0 {
				t.Error(l, limit, got)
			}
			stands(t, r, len(b), 1, api.ErrForm, l, limit)
			idle(t, r, l, limit)
		}
		for cut := 1; cut < len(b)-1; cut += 1 + cut/50 {
			r := bin.From(b[:cut])
			r.U()
			if got := r.Ints(len(l)); len(got) != 0 {
				t.Error(l, cut, got)
			}
			stands(t, r, cut, 1, api.ErrShort, l, cut)
		}
	}
}

// P21.2: by hand; the first number that is wrong tells the error, and lengths far beyond the bytes end, too.
func TestReadListErrors(t *testing.T) {
	huge := bytesOf(1 << 62)
	for i, c := range []struct {
		b           []byte
		most        int
		text, ints  api.Errno
		texts, many int // how long what is read is
	}{
		{[]byte{2, 4, 6}, 2, api.OK, api.OK, 2, 2},
		{[]byte{2, 4, 6}, 1, api.ErrForm, api.ErrForm, 0, 0},
		{[]byte{2, 4}, 1, api.ErrForm, api.ErrForm, 0, 0},
		{[]byte{2, 4}, 2, api.ErrShort, api.ErrShort, 0, 0},
		{[]byte{2, 4, 248}, 2, api.OK, api.ErrForm, 2, 0},
		{[]byte{3, 4, 248}, 3, api.ErrShort, api.ErrForm, 0, 0},
		{[]byte{2, 240, 3}, 2, api.OK, api.ErrForm, 2, 0},
		{[]byte{2, 241, 3}, 2, api.OK, api.ErrShort, 2, 0},
		{[]byte{3, 4, 240, 3}, 9, api.OK, api.ErrForm, 3, 0},
		{[]byte{3, 240, 3, 250}, 9, api.OK, api.ErrForm, 3, 0},
		{[]byte{0, 1}, 0, api.OK, api.OK, 0, 0},
		{append(slices.Clone(huge), 1, 2, 3), most, api.ErrShort, api.ErrShort, 0, 0},
		{append(slices.Clone(huge), 1, 249, 3), most, api.ErrShort, api.ErrForm, 0, 0},
		{append(slices.Clone(huge), 1, 2, 3), 1<<62 - 1, api.ErrForm, api.ErrForm, 0, 0},
		{bytesOf(most), most, api.ErrShort, api.ErrShort, 0, 0},
		{bytesOf(most + 1), most, api.ErrForm, api.ErrForm, 0, 0},
		{bytesOf(greatest), most, api.ErrForm, api.ErrForm, 0, 0},
	} {
		b := append([]byte{7}, c.b...)
		r := bin.From(b)
		r.U()
		if s := r.Text(c.most); len(s) != c.texts || r.Err() != c.text || c.text != api.OK && r.At() != 1 {
			t.Error(i, s, r.Err(), r.At())
		}
		r = bin.From(b)
		r.U()
		if l := r.Ints(c.most); len(l) != c.many || r.Err() != c.ints || c.ints != api.OK && r.At() != 1 {
			t.Error(i, l, r.Err(), r.At())
		}
	}
}

// P21.3
func TestFail(t *testing.T) {
	for _, e := range []api.Errno{api.OK, api.ErrArg, api.ErrShort, api.ErrForm, api.ErrShut, api.ErrState, -1, 999} {
		for at := range 4 {
			r := bin.From([]byte{1, 2, 3})
			for range at {
				r.U()
			}
			r.Fail(e)
			want := e
			if e == api.OK {
				want = api.ErrForm
			}
			stands(t, r, 3, at, want, e, at)
			idle(t, r, e, at)
		}
	}
}

// P21.3
func TestEnd(t *testing.T) {
	for size := range 4 {
		for at := range size + 1 {
			r := bin.From(make([]byte, size))
			for range at {
				r.U()
			}
			r.End()
			if at == size {
				stands(t, r, size, at, api.OK, size, at)
				if r.U() != 0 {
					t.Error("behind the end")
				}
				stands(t, r, size, at, api.ErrShort, size, at)
			} else {
				stands(t, r, size, at, api.ErrForm, size, at)
			}
			idle(t, r, size, at)
		}
	}
	r := bin.From([]byte{249})
	r.Fail(api.ErrSum)
	r.End()
	stands(t, r, 1, 0, api.ErrSum)
}

// P21.3
func TestNil(t *testing.T) {
	var r *bin.Reader
	for range 2 {
		if r.At() != 0 || r.Left() != 0 || r.Err() != api.ErrShut {
			t.Error(r.At(), r.Left(), r.Err())
		}
		idle(t, r, "nil")
	}
}

// P21.2, P21.3: of no bytes.
func TestEmpty(t *testing.T) {
	for _, b := range [][]byte{nil, {}} {
		r := bin.From(b)
		stands(t, r, 0, 0, api.OK)
		r.End()
		stands(t, r, 0, 0, api.OK)
		if l := r.Ints(0); len(l) != 0 {
			t.Error(l)
		}
		stands(t, r, 0, 0, api.ErrShort)
	}
}

// P21.2, R3: a reader has bytes of its own, and gives none of them out.
func TestReadMemory(t *testing.T) {
	b := append(bytesOfText([]byte("abc")), bytesOfText([]byte("de"))...)
	given := slices.Clone(b)
	r := bin.From(b[:len(b):len(b)])
	for i := range b {
		b[i] = 99
	}
	s := r.Text(9)
	if string(s) != "abc" {
		t.Error(s)
	}
	for i := range s[:cap(s)] {
		s[:cap(s)][i] = 88
	}
	if s := r.Text(9); string(s) != "de" || r.Err() != api.OK {
		t.Error(s, r.Err())
	}
	whole := append(slices.Clone(given), 1, 2, 3)
	r = bin.From(whole[:len(given)])
	first := r.Text(9)
	for i := range first[:cap(first)] {
		first[:cap(first)][i] = 88
	}
	if !bytes.Equal(whole, append(slices.Clone(given), 1, 2, 3)) || r.Left() != 3 {
		t.Error(whole, r.Left())
	}
}

// R4: two readers of the same bytes have nothing to do with each other.
func TestTwo(t *testing.T) {
	b := []byte{1, 2, 250, 3}
	one, two := bin.From(b), bin.From(b)
	one.U()
	two.Fail(api.ErrArg)
	if one.U() != 2 {
		t.Error("one")
	}
	one.U()
	stands(t, one, 4, 2, api.ErrForm)
	stands(t, two, 4, 0, api.ErrArg)
}

// part is something that is written, and read again.
type part struct {
	write func(b []byte) []byte
	reads func(r *bin.Reader) bool
}

// parts is n parts at random.
func parts(random *rand.Rand, n int) []part {
	l := make([]part, n)
	for i := range l {
		u := random.Uint64() >> random.IntN(64)
		n := int(random.Uint64()) >> random.IntN(64)
		p := int(u >> 1)
		s := texts()[random.IntN(9)]
		ints := lists()[random.IntN(9)]
		l[i] = []part{
			{func(b []byte) []byte { return bin.U(b, u) }, func(r *bin.Reader) bool { return r.U() == u }},
			{func(b []byte) []byte { return bin.U(b, uint64(p)) }, func(r *bin.Reader) bool { return r.N(p) == p }},
			{func(b []byte) []byte { return bin.I(b, n) }, func(r *bin.Reader) bool { return r.I() == n }},
			{func(b []byte) []byte { return bin.Text(b, s) }, func(r *bin.Reader) bool { return bytes.Equal(r.Text(len(s)), s) }},
			{func(b []byte) []byte { return bin.Ints(b, ints) }, func(r *bin.Reader) bool { return slices.Equal(r.Ints(len(ints)), ints) }},
		}[random.IntN(5)]
	}
	return l
}

// P21.4: what is written in a row is read in the same order.
func TestReadInvertsWrite(t *testing.T) {
	random := rand.New(rand.NewPCG(21, 4))
	for range 400 {
		l := parts(random, random.IntN(12))
		var b []byte
		ends := []int{0}
		for _, p := range l {
			b = p.write(b)
			ends = append(ends, len(b))
		}
		r := bin.From(b)
		for i, p := range l {
			stands(t, r, len(b), ends[i], api.OK, i)
			if !p.reads(r) {
				t.Fatal(i, b, r.At(), r.Err())
			}
		}
		r.End()
		stands(t, r, len(b), len(b), api.OK, "end")
	}
}

// same fails if b is read as something that is not written like the bytes that were read.
func same(t *testing.T, b []byte) (ok int) {
	t.Helper()
	for i, again := range []func(r *bin.Reader) []byte{
		func(r *bin.Reader) []byte { return bin.U(nil, r.U()) },
		func(r *bin.Reader) []byte { return bin.U(nil, uint64(r.N(most))) },
		func(r *bin.Reader) []byte { return bin.I(nil, r.I()) },
		func(r *bin.Reader) []byte { return bin.Text(nil, r.Text(most)) },
		func(r *bin.Reader) []byte { return bin.Ints(nil, r.Ints(most)) },
	} {
		r := bin.From(b)
		if got := again(r); r.Err() == api.OK {
			ok++
			if !bytes.Equal(got, b[:r.At()]) {
				t.Error(i, b, got, r.At())
			}
		} else if r.At() != 0 || r.Err() != api.ErrForm && r.Err() != api.ErrShort {
			t.Error(i, b, r.At(), r.Err())
		}
	}
	return ok
}

// P21.4: writing inverts reading, whatever the bytes are: there is one form only.
func TestWriteInvertsRead(t *testing.T) {
	count := 0
	for a := range 256 {
		count += same(t, []byte{byte(a)})
		for b := range 256 {
			count += same(t, []byte{byte(a), byte(b)})
		}
	}
	random := rand.New(rand.NewPCG(21, 5))
	for range 50000 {
		b := make([]byte, random.IntN(14))
		for i := range b {
			b[i] = []byte{byte(random.IntN(256)), byte(random.IntN(4)), byte(236 + random.IntN(15))}[random.IntN(3)]
		}
		count += same(t, b)
	}
	if count < 100000 {
		t.Error("seldom tested", count)
	}
}

// P21.1, P21.4: of any two numbers the bytes differ.
func TestUnique(t *testing.T) {
	seen := map[string]uint64{}
	for _, n := range numbers() {
		s := fmt.Sprint(bin.U(nil, n))
		if other, ok := seen[s]; ok && other != n {
			t.Error(n, other, s)
		}
		seen[s] = n
	}
}
