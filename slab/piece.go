package slab

import (
	"bytes"
	"iter"

	"copse/api"
	"copse/disk"
)

// The last two bytes of a piece: how many bytes it uses, and its mark.
const (
	countAt = api.Sector - 2
	markAt  = api.Sector - 1
)

// The marks: of a piece that others follow, and of the last one of a record.
const (
	markMore = 1
	markLast = 2
)

// blank is a sector that is entirely 0.
func blank() []byte {
	return make([]byte, api.Sector)
}

// isBlank tells whether the sector s is entirely 0.
func isBlank(s []byte) bool {
	return bytes.Equal(s, blank())
}

// piece is the bytes of a record that a sector stores, and whether they are its last ones.
type piece struct {
	used []byte
	last bool
}

// sector is the piece as a sector.
func (p piece) sector() []byte {
	s := blank()
	copy(s, p.used)
	s[countAt] = byte(len(p.used))
	s[markAt] = markMore
	if p.last {
		s[markAt] = markLast
	}
	return s
}

// pieceOf is the piece that the sector s stores, and true; false if it stores none.
func pieceOf(s []byte) (piece, bool) {
	used := min(int(s[countAt]), api.Piece)
	p := piece{used: s[:used], last: s[markAt] == markLast}
	// A piece has a single form.
	if !bytes.Equal(p.sector(), s) || !p.last && used < api.Piece {
		return piece{}, false
	}
	return p, true
}

// pieces goes through the pieces of the record of b.
func pieces(b []byte) iter.Seq[piece] {
	return func(yield func(piece) bool) {
		rest := b
		for len(rest) > api.Piece {
			if !yield(piece{used: rest[:api.Piece]}) {
				return
			}
			rest = rest[api.Piece:]
		}
		yield(piece{used: rest, last: true})
	}
}

// stored goes through the pieces on d from the sector first on, up to end or to a sector that is none; an error is the last thing that it tells.
func stored(d *disk.Disk, first, end int) iter.Seq2[piece, api.Errno] {
	return func(yield func(piece, api.Errno) bool) {
		for i := first; i < end; i++ {
			s, e := d.Read(i)
			if e != api.OK {
				yield(piece{}, e)
				return
			}
			p, ok := pieceOf(s)
			if !ok || !yield(p, api.OK) {
				return
			}
		}
	}
}
