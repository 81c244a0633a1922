package word_test

import (
	"math/big"
	"math/rand/v2"
	"testing"

	"copse/word"
)

// words are the edges of a word and of its halves, and some others.
func words() []uint64 {
	l := []uint64{0, 1, 2, 3, 7, 10, 1<<31 - 1, 1 << 31, 1<<32 - 1, 1 << 32, 1<<32 + 1, 1<<33 - 1, 1<<63 - 1, 1 << 63, 1<<63 + 1, 1<<64 - 1<<32, 1<<64 - 2, 1<<64 - 1}
	random := rand.New(rand.NewPCG(1, 2))
	for range 20 {
		l = append(l, random.Uint64()>>random.UintN(64))
	}
	return l
}

func whole(n uint64) *big.Int {
	return new(big.Int).SetUint64(n)
}

// pair is high times 2^64, and low.
func pair(high, low uint64) *big.Int {
	n := new(big.Int).Lsh(whole(high), 64)
	return n.Add(n, whole(low))
}

func TestSize(t *testing.T) {
	const most, least = 1<<63 - 1, -1 << 63
	for n, want := range map[int]uint64{0: 0, 1: 1, -1: 1, most: most, -most: most, least: 1 << 63} {
		if got := word.Size(n); got != want {
			t.Error(n, got, want)
		}
	}
}

func TestAddAndSub(t *testing.T) {
	for _, a := range words() {
		for _, b := range words() {
			for _, carry := range []uint64{0, 1} {
				sum, over := word.Add(a, b, carry)
				want := new(big.Int).Add(whole(a), whole(b))
				if want.Add(want, whole(carry)); pair(over, sum).Cmp(want) != 0 {
					t.Error("Add", a, b, carry, sum, over)
				}
				rest, under := word.Sub(a, b, carry)
				back := new(big.Int).Add(whole(rest), whole(b))
				if back.Add(back, whole(carry)); back.Cmp(pair(under, a)) != 0 {
					t.Error("Sub", a, b, carry, rest, under)
				}
			}
		}
	}
}

func TestMul(t *testing.T) {
	for _, a := range words() {
		for _, b := range words() {
			high, low := word.Mul(a, b)
			if want := new(big.Int).Mul(whole(a), whole(b)); pair(high, low).Cmp(want) != 0 {
				t.Error(a, b, high, low)
			}
		}
	}
}

func TestDiv(t *testing.T) {
	for _, d := range words() {
		for _, high := range words() {
			if high >= d {
				continue
			}
			for _, low := range words() {
				quotient, rest := word.Div(high, low, d)
				q, r := new(big.Int).QuoRem(pair(high, low), whole(d), new(big.Int))
				if whole(quotient).Cmp(q) != 0 || whole(rest).Cmp(r) != 0 {
					t.Error(high, low, d, quotient, rest)
				}
			}
		}
	}
}
