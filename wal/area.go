package wal

import (
	"copse/api"
	"copse/crc"
	"copse/disk"
	"copse/slab"
)

// leastSectors is how many sectors a disk for a log has at least.
const leastSectors = 4

// sealSize is how many bytes longer sealed bytes are.
const sealSize = 4

// area is a disk for a log, with regions of so many sectors.
type area struct {
	d    *disk.Disk
	size int
}

// areaOf is the area on d; ErrShut if there is no disk, ErrArg if it is too small.
func areaOf(d *disk.Disk) (area, api.Errno) {
	if d == nil {
		return area{}, api.ErrShut
	}
	if d.Len() < leastSectors {
		return area{}, api.ErrArg
	}
	return area{d: d, size: (d.Len() - heads) / heads}, api.OK
}

// first is the first sector of the region of a generation.
func (a area) first(generation int) int {
	return heads + generation%heads*a.size
}

// end is the sector after the region of a generation.
func (a area) end(generation int) int {
	return a.first(generation) + a.size
}

// current is the generation of the current head, or 0 if there is none.
func (a area) current() (int, api.Errno) {
	current := 0
	for i := range heads {
		s, e := a.d.Read(i)
		if e != api.OK {
			return 0, e
		}
		current = max(current, generationOf(s, i))
	}
	return current, api.OK
}

// fits reports whether n bytes, sealed, are a record that needs at most so many sectors; no bytes, if n is negative.
func fits(n, sectors int) bool {
	return n <= api.MaxRecord-sealSize && slab.Need(n+sealSize) <= sectors
}

// stored is the log of the region of a generation, the base first, and the sector after it.
func (a area) stored(generation int) ([][]byte, int, api.Errno) {
	next := a.first(generation)
	sealed, _, e := slab.Scan(a.d, next, a.end(generation))
	if e != api.OK {
		return nil, 0, e
	}
	var records [][]byte
	for _, s := range sealed {
		b, e := crc.Open(s)
		if e != api.OK {
			break
		}
		records = append(records, b)
		next += slab.Need(len(s))
	}
	return records, next, api.OK
}
