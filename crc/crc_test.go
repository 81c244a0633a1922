package crc_test

import (
	"bytes"
	"math/bits"
	"math/rand/v2"
	"slices"
	"testing"

	"copse/api"
	"copse/crc"
)

// slow is the checksum of b, bit by bit, by the words.
func slow(b []byte) uint32 {
	register := uint32(1<<32 - 1)
	for _, c := range b {
		register ^= uint32(c)
		for range 8 {
			out := register & 1
			register >>= 1
			if out == 1 {
				register ^= 0xedb88320
			}
		}
	}
	return ^register
}

// some is n random bytes.
func some(random *rand.Rand, n int) []byte {
	b := make([]byte, n)
	for i := range b {
		b[i] = byte(random.Uint32())
	}
	return b
}

// messages is bytes of many lengths: each single one, and random, equal and counted ones.
func messages() [][]byte {
	random := rand.New(rand.NewPCG(24, 1))
	l := [][]byte{nil, {}, []byte("123456789")}
	for c := range 256 {
		l = append(l, []byte{byte(c)})
	}
	for n := range 70 {
		l = append(l, some(random, n), make([]byte, n), bytes.Repeat([]byte{255}, n))
	}
	for _, n := range []int{255, 256, 257, 1000, 4096, 1<<16 + 1} {
		l = append(l, some(random, n), make([]byte, n), bytes.Repeat([]byte{255}, n))
	}
	return l
}

// P24.1: known checksums.
func TestSumExamples(t *testing.T) {
	for s, want := range map[string]uint32{
		"": 0, "123456789": 0xcbf43926, "a": 0xe8b7be43, "abc": 0x352441c2, "message digest": 0x20159d7f, "abcdefghijklmnopqrstuvwxyz": 0x4c2750bd,
		"\x00": 0xd202ef8d, "\x00\x00\x00\x00": 0x2144df1c, "\xff\xff\xff\xff": 0xffffffff, "\xff": 0xff000000,
	} {
		if got := crc.Sum([]byte(s)); got != want || slow([]byte(s)) != want {
			t.Errorf("%q: %x, not %x", s, got, want)
		}
	}
}

// P24.1
func TestSum(t *testing.T) {
	for _, b := range messages() {
		if got := crc.Sum(b); got != slow(b) {
			t.Errorf("%x (%d bytes): %x", b[:min(len(b), 20)], len(b), got)
		}
	}
	for a := range 256 {
		for c := range 256 {
			b := []byte{byte(a), byte(c)}
			if crc.Sum(b) != slow(b) {
				t.Error(b)
			}
		}
	}
}

// P24.1: of any sum, as that of bytes that have it.
func TestMore(t *testing.T) {
	for _, b := range messages() {
		want := slow(b)
		for _, i := range []int{0, 1, 2, 3, len(b) / 2, len(b) - 1, len(b)} {
			if i < 0 || i > len(b) {
				continue
			}
			if got := crc.More(slow(b[:i]), b[i:]); got != want {
				t.Errorf("%d of %d bytes: %x, not %x", i, len(b), got, want)
			}
		}
		sum := uint32(0)
		for _, c := range b {
			sum = crc.More(sum, []byte{c})
		}
		if sum != want {
			t.Errorf("byte by byte: %x, not %x", sum, want)
		}
	}
	for _, sum := range []uint32{0, 1, 1 << 31, 1<<32 - 1, 0xcbf43926} {
		if crc.More(sum, nil) != sum || crc.More(sum, []byte{}) != sum {
			t.Errorf("nothing more: %x", sum)
		}
	}
}

// P24.1: of all parts of some bytes.
func TestJoin(t *testing.T) {
	random := rand.New(rand.NewPCG(24, 2))
	for _, b := range [][]byte{[]byte("123456789"), make([]byte, 40), bytes.Repeat([]byte{255}, 40), some(random, 300)} {
		want := slow(b)
		for i := range len(b) + 1 {
			if got := crc.Join(slow(b[:i]), slow(b[i:]), len(b)-i); got != want {
				t.Errorf("%d of %d bytes: %x, not %x", i, len(b), got, want)
			}
		}
	}
	// Three parts, joined in both ways.
	for range 500 {
		a, b, c := some(random, random.IntN(50)), some(random, random.IntN(50)), some(random, random.IntN(50))
		x, y, z := slow(a), slow(b), slow(c)
		want := slow(slices.Concat(a, b, c))
		if crc.Join(crc.Join(x, y, len(b)), z, len(c)) != want || crc.Join(x, crc.Join(y, z, len(c)), len(b)+len(c)) != want {
			t.Error(a, b, c)
		}
	}
}

// P24.1: up to 2^20 bytes; each bit of the first checksum counts.
func TestJoinOfMany(t *testing.T) {
	random := rand.New(rand.NewPCG(24, 3))
	all := some(random, 1<<20)
	firsts := []uint32{0, 1<<32 - 1, 0xcbf43926}
	for i := range 32 {
		firsts = append(firsts, 1<<i)
	}
	lengths := []int{0, 1, 2, 3, 1<<20 - 1, 1 << 20, 999999}
	for i := range 20 {
		lengths = append(lengths, 1<<i, 1<<i+1, 3<<i>>2, random.IntN(1<<20))
	}
	for _, n := range lengths {
		for _, b := range [][]byte{all[:n], make([]byte, n)} {
			tried := firsts
			if n > 1<<12 {
				tried = firsts[:3]
			}
			sum := crc.Sum(b)
			for _, first := range tried {
				if got, want := crc.Join(first, sum, n), crc.More(first, b); got != want {
					t.Errorf("%x and %d bytes: %x, not %x", first, n, got, want)
				}
			}
		}
	}
}

// P24.2: the checksum is that of the words, its least byte first.
func TestSeal(t *testing.T) {
	if got := crc.Seal([]byte("123456789")); !bytes.Equal(got, []byte("123456789\x26\x39\xf4\xcb")) {
		t.Errorf("%x", got)
	}
	if got := crc.Seal(nil); !bytes.Equal(got, []byte{0, 0, 0, 0}) {
		t.Errorf("%x", got)
	}
	for _, b := range messages() {
		sum := slow(b)
		want := append(slices.Clone(b), byte(sum), byte(sum>>8), byte(sum>>16), byte(sum>>24))
		got := crc.Seal(b)
		if !bytes.Equal(got, want) {
			t.Errorf("%x", b)
		}
		if others, e := crc.Open(got); !bytes.Equal(others, b) || e != api.OK {
			t.Errorf("%x: %x, %d", b, others, e)
		}
		// Sealed once more, and opened twice.
		twice, e := crc.Open(crc.Seal(got))
		if !bytes.Equal(twice, want) || e != api.OK {
			t.Errorf("%x: %x, %d", b, twice, e)
		}
	}
}

// P24.2
func TestOpenErrors(t *testing.T) {
	for n := range 4 {
		for _, b := range [][]byte{make([]byte, n), bytes.Repeat([]byte{255}, n), crc.Seal(nil)[:n]} {
			if others, e := crc.Open(b); others != nil || e != api.ErrShort {
				t.Error(b, others, e)
			}
		}
	}
	if others, e := crc.Open(nil); others != nil || e != api.ErrShort {
		t.Error(others, e)
	}
	sealed := crc.Seal([]byte("123456789"))
	turned := slices.Clone(sealed)
	slices.Reverse(turned[9:])
	for i, b := range [][]byte{turned, sealed[:12], sealed[:9], sealed[1:], append(slices.Clone(sealed), 0), append([]byte{0}, sealed...), {0, 0, 0, 1}, {1, 0, 0, 0}, {255, 255, 255, 255}, make([]byte, 5), []byte("123456789\xd9\xc6\x0b\x34")} {
		if others, e := crc.Open(b); others != nil || e != api.ErrSum {
			t.Error(i, others, e)
		}
	}
	if others, e := crc.Open([]byte{255, 255, 255, 255, 255, 255, 255, 255}); !bytes.Equal(others, []byte{255, 255, 255, 255}) || e != api.OK {
		t.Error(others, e)
	}
}

// change changes the bits of b from the bit at on, counted from the least significant one of the first byte, as the bits of pattern are.
func change(b []byte, at int, pattern uint32) []byte {
	b = slices.Clone(b)
	for ; pattern > 0; pattern >>= 1 {
		b[at/8] ^= byte(pattern&1) << (at % 8)
		at++
	}
	return b
}

// detected fails if such a change of sealed bytes is not told.
func detected(t *testing.T, sealed []byte, at int, pattern uint32) {
	t.Helper()
	if others, e := crc.Open(change(sealed, at, pattern)); others != nil || e != api.ErrSum {
		t.Errorf("%x, the bits %b from %d on: %x, %d", sealed, pattern, at, others, e)
	}
}

// P24.3: of one bit, of two, of all within a range, and of some.
func TestChanges(t *testing.T) {
	random := rand.New(rand.NewPCG(24, 4))
	for _, b := range [][]byte{nil, {0}, []byte("123456789"), make([]byte, 20), some(random, 20)} {
		sealed := crc.Seal(b)
		count := 8 * len(sealed)
		for at := range count {
			room := min(32, count-at)
			for i := range room {
				detected(t, sealed, at, 1)
				detected(t, sealed, at, 1|1<<i)
				detected(t, sealed, at, 2<<i-1)
			}
			for range 200 {
				if pattern := random.Uint32() >> (32 - room); pattern > 0 {
					detected(t, sealed, at, pattern)
				}
			}
		}
	}
}

// P24.3: for all changes within a range at once. What a change does to the difference of both checksums does not depend on the bytes, and is the sum of what its bits do: no sum of some of the 32 is nothing.
func TestAllChanges(t *testing.T) {
	sealed := crc.Seal([]byte("123456789"))
	differs := func(b []byte) uint32 {
		last := b[len(b)-4:]
		return crc.Sum(b[:len(b)-4]) ^ (uint32(last[0]) | uint32(last[1])<<8 | uint32(last[2])<<16 | uint32(last[3])<<24)
	}
	for at := range 8*len(sealed) - 31 {
		var byLength [33]uint32
		for i := range 32 {
			d := differs(change(sealed, at, 1<<i))
			for d > 0 && byLength[bits.Len32(d)] > 0 {
				d ^= byLength[bits.Len32(d)]
			}
			if d == 0 {
				t.Fatal("not detected: some bits from", at, "to", at+i)
			}
			byLength[bits.Len32(d)] = d
		}
	}
}

// R3: what is passed, and the room behind it, stays; and what comes out is new memory.
func TestMemory(t *testing.T) {
	for _, size := range []int{0, 1, 5, 40} {
		whole := bytes.Repeat([]byte{77}, 60)
		b := whole[:size]
		crc.Sum(b)
		crc.More(5, b)
		sealed := crc.Seal(b)
		kept := slices.Clone(sealed)
		room := append(slices.Clone(sealed), 1, 2, 3, 4, 5, 6, 7, 8)[:len(sealed)]
		others, e := crc.Open(room)
		if e != api.OK {
			t.Fatal(e)
		}
		for _, got := range [][]byte{sealed, others} {
			for i := range got[:cap(got)] {
				got[:cap(got)][i] = 99
			}
		}
		if !bytes.Equal(whole, bytes.Repeat([]byte{77}, 60)) || !bytes.Equal(room, kept) || !bytes.Equal(room[len(room):len(room)+8], []byte{1, 2, 3, 4, 5, 6, 7, 8}) {
			t.Error(size, whole, room)
		}
	}
}
