package wal

import (
	"bytes"

	"copse/api"
)

// heads is how many sectors contain heads, and how many regions there are.
const heads = 2

// numberSize is how many bytes a generation has in a head.
const numberSize = 8

// head is the head of a generation.
func head(generation int) []byte {
	s := make([]byte, api.Sector)
	for i, g := numberSize-1, generation; i >= 0; i-- {
		s[i] = byte(g)
		g >>= 8
	}
	copy(s[api.Sector-numberSize:], s[:numberSize])
	return s
}

// generationOf is the generation of the head that the sector i contains as s; 0 if it contains none.
func generationOf(s []byte, i int) int {
	var g uint64
	for _, c := range s[:numberSize] {
		g = g<<8 + uint64(c)
	}
	if g > api.MaxCount || g%heads != uint64(i) || !bytes.Equal(s, head(int(g))) {
		return 0
	}
	return int(g)
}
