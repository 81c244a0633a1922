package slab_test

import (
	"bytes"
	"math/rand/v2"
	"slices"
	"testing"

	"copse/api"
	"copse/disk"
	"copse/slab"
)

const (
	least = -1 << 63
	most  = 1<<63 - 1
)

// whole is the bytes of the longest record, wholeOf its pieces, and wholeEnd the bytes of the last one.
const (
	whole    = 65536
	wholeOf  = 1058
	wholeEnd = 2
)

func opened(t *testing.T, sectors int) *disk.Disk {
	t.Helper()
	d, e := disk.New(sectors)
	if e != api.OK {
		t.Fatal(e)
	}
	return d
}

// of is a disk with these sectors.
func of(t *testing.T, sectors ...[]byte) *disk.Disk {
	t.Helper()
	d, e := disk.Of(slices.Concat(sectors...))
	if e != api.OK {
		t.Fatal(e)
	}
	return d
}

// count is n bytes, none of them 0, and few of them equal to their neighbours.
func count(n int) []byte {
	b := make([]byte, n)
	for i := range b {
		b[i] = byte(1 + i*7%255)
	}
	return b
}

func some(random *rand.Rand, n int) []byte {
	b := make([]byte, n)
	for i := range b {
		b[i] = byte(random.Uint32())
	}
	return b
}

func zero() []byte {
	return make([]byte, 64)
}

// part is the sector of a piece by the words.
func part(b []byte, mark byte) []byte {
	s := append(slices.Clone(b), make([]byte, 62-len(b))...)
	return append(s, byte(len(b)), mark)
}

// parts is the sectors of the record of b by the words.
func parts(b []byte) [][]byte {
	var l [][]byte
	for len(b) > 62 {
		l = append(l, part(b[:62], 1))
		b = b[62:]
	}
	return append(l, part(b, 2))
}

// find is the record that begins with the first one of these sectors by the words, and how many of them it has (0: there is none).
func find(sectors [][]byte) ([]byte, int) {
	var b []byte
	for i, s := range sectors {
		used, mark := int(s[62]), s[63]
		if mark != 1 && mark != 2 || used > 62 || mark == 1 && used != 62 {
			return nil, 0
		}
		for _, c := range s[used:62] {
			if c != 0 {
				return nil, 0
			}
		}
		b = append(b, s[:used]...)
		if mark == 2 {
			if len(b) > 65536 || used == 0 && i > 0 {
				return nil, 0
			}
			return b, i + 1
		}
	}
	return nil, 0
}

// all is the records of a run of these sectors by the words, and how many sectors they have.
func all(sectors [][]byte) ([][]byte, int) {
	var l [][]byte
	at := 0
	for {
		b, n := find(sectors[at:])
		if n == 0 {
			return l, at
		}
		l = append(l, b)
		at += n
	}
}

func sectorsOf(d *disk.Disk) [][]byte {
	return slices.Collect(slices.Chunk(d.Image(), 64))
}

// same fails if Get and Scan do not find, in each run of d, what is there by the words, or if they change something.
func same(t *testing.T, d *disk.Disk) {
	t.Helper()
	sectors, waiting := sectorsOf(d), d.Waits()
	for end := range len(sectors) + 1 {
		for first := range end + 1 {
			run := sectors[first:end]
			b, n := find(run)
			got, next, e := slab.Get(d, first, end)
			if n == 0 && (got != nil || next != 0 || e != api.ErrNone) {
				t.Errorf("get %d to %d: %x, %d, %d, not none", first, end, got, next, e)
			}
			if n > 0 && (!bytes.Equal(got, b) || next != first+n || e != api.OK) {
				t.Errorf("get %d to %d: %x, %d, %d, not %x", first, end, got, next, e, b)
			}
			l, n := all(run)
			records, next, e := slab.Scan(d, first, end)
			if !slices.EqualFunc(records, l, bytes.Equal) || next != first+n || e != api.OK {
				t.Errorf("scan %d to %d: %x, %d, %d, not %x, %d", first, end, records, next, e, l, first+n)
			}
		}
	}
	if !bytes.Equal(d.Image(), slices.Concat(sectors...)) || !slices.Equal(d.Waits(), waiting) {
		t.Error("changed")
	}
}

// put puts a record, and is the sector after it.
func put(t *testing.T, d *disk.Disk, first, end int, b []byte) int {
	t.Helper()
	next, e := slab.Put(d, first, end, b)
	if e != api.OK || next != first+len(parts(b)) {
		t.Fatal(first, end, len(b), next, e)
	}
	return next
}

// P26.1
func TestNeed(t *testing.T) {
	for n := range 70000 {
		want := n / 62
		if n%62 > 0 || n == 0 {
			want++
		}
		if got := slab.Need(n); got != want {
			t.Fatal(n, got)
		}
	}
	for n, want := range map[int]int{
		-1: 1, -2: 1, -61: 1, -62: 1, -63: 1, -124: 1, -1000000: 1, least: 1, least + 1: 1, most: most/62 + 1, most - 1: most/62 + 1, 62 << 50: 1 << 50, 62<<50 + 1: 1<<50 + 1, 62<<50 - 1: 1 << 50, 65534: 1057, 65535: 1058, 65536: 1058,
	} {
		if got := slab.Need(n); got != want {
			t.Error(n, got, want)
		}
	}
}

// runs is wrong runs of a disk with so many sectors.
func runs(n int) [][2]int {
	return [][2]int{
		{-1, 0}, {-1, 1}, {-1, -1}, {-1, n}, {-1, n + 1}, {-2, -1}, {1, 0}, {2, 1}, {n, n - 1}, {n, 0}, {0, -1}, {1, -1}, {0, n + 1}, {n, n + 1}, {n - 1, n + 1}, {n + 1, n + 1}, {n + 1, n + 2}, {n + 1, n},
		{0, most}, {0, least}, {least, 0}, {least, 1}, {least, least}, {least, most}, {most, most}, {most, least}, {most, 0}, {0, 4097}, {0, 64 * n}, {0, 1 << 32}, {1 << 32, 1<<32 + 1},
	}
}

// P26.1, P26.2: of a wrong run, with power and without.
func TestWrongRuns(t *testing.T) {
	for _, off := range []bool{false, true} {
		d := of(t, parts(count(63))...)
		before := d.Image()
		if off {
			d.Stop(0)
		}
		for _, r := range runs(2) {
			for _, b := range [][]byte{nil, count(5), count(5000), count(whole + 1)} {
				if next, e := slab.Put(d, r[0], r[1], b); next != 0 || e != api.ErrArg {
					t.Error(r, len(b), next, e)
				}
			}
			if b, next, e := slab.Get(d, r[0], r[1]); b != nil || next != 0 || e != api.ErrArg {
				t.Error(r, b, next, e)
			}
			if l, next, e := slab.Scan(d, r[0], r[1]); l != nil || next != 0 || e != api.ErrArg {
				t.Error(r, l, next, e)
			}
			if n, e := slab.Wipe(d, r[0], r[1]); n != 0 || e != api.ErrArg {
				t.Error(r, n, e)
			}
		}
		if !bytes.Equal(d.Image(), before) || len(d.Waits()) > 0 {
			t.Error(d.Image(), d.Waits())
		}
	}
}

// P26.1: of no disk, whatever the run is.
func TestNil(t *testing.T) {
	for _, r := range append(runs(2), [2]int{}, [2]int{0, 1}) {
		for _, b := range [][]byte{nil, count(5), count(whole + 1)} {
			if next, e := slab.Put(nil, r[0], r[1], b); next != 0 || e != api.ErrShut {
				t.Error(r, len(b), next, e)
			}
		}
		if b, next, e := slab.Get(nil, r[0], r[1]); b != nil || next != 0 || e != api.ErrShut {
			t.Error(r, b, next, e)
		}
		if l, next, e := slab.Scan(nil, r[0], r[1]); l != nil || next != 0 || e != api.ErrShut {
			t.Error(r, l, next, e)
		}
		if n, e := slab.Wipe(nil, r[0], r[1]); n != 0 || e != api.ErrShut {
			t.Error(r, n, e)
		}
	}
}

// P26.1, P26.2: without power, of each run; ErrLong and ErrFull go before.
func TestOff(t *testing.T) {
	d := of(t, slices.Concat(parts(count(63)), parts(nil), [][]byte{zero()})...)
	before := d.Image()
	d.Stop(0)
	for end := range 5 {
		for first := range end + 1 {
			if b, next, e := slab.Get(d, first, end); b != nil || next != 0 || e != api.ErrOff {
				t.Error(first, end, b, next, e)
			}
			if l, next, e := slab.Scan(d, first, end); l != nil || next != 0 || e != api.ErrOff {
				t.Error(first, end, l, next, e)
			}
			if n, e := slab.Wipe(d, first, end); n != 0 || e != api.ErrOff {
				t.Error(first, end, n, e)
			}
			for _, n := range []int{0, 1, 62, 63, 124, 125, 186, 187, 248, 249, whole, whole + 1} {
				want := api.ErrOff
				switch {
				case n > whole:
					want = api.ErrLong
				case len(parts(make([]byte, n))) > end-first:
					want = api.ErrFull
				}
				if next, e := slab.Put(d, first, end, count(n)); next != 0 || e != want {
					t.Error(first, end, n, next, e)
				}
			}
		}
	}
	if !bytes.Equal(d.Image(), before) || len(d.Waits()) > 0 {
		t.Error(d.Image(), d.Waits())
	}
	d.Crash(nil)
	same(t, d)
}

// P26.2: of each length, over something, within a run that is just long enough; nothing else is written, and nothing flushed.
func TestPut(t *testing.T) {
	random := rand.New(rand.NewPCG(26, 1))
	for n := range 400 {
		for _, b := range [][]byte{make([]byte, n), count(n), some(random, n)} {
			want := parts(b)
			size := len(want)
			under := some(random, 64*(size+4))
			d, _ := disk.Of(under)
			first := random.IntN(4)
			next, e := slab.Put(d, first, first+size, b)
			if next != first+size || e != api.OK {
				t.Fatal(n, next, e)
			}
			if !bytes.Equal(d.Image(), slices.Concat(under[:64*first], slices.Concat(want...), under[64*next:])) {
				t.Fatalf("%d: %x", n, d.Image())
			}
			var waiting []int
			for i := first; i < next; i++ {
				waiting = append(waiting, i)
			}
			if !slices.Equal(d.Waits(), waiting) {
				t.Fatal(n, d.Waits())
			}
			d.Crash(nil)
			if !bytes.Equal(d.Image(), under) {
				t.Fatal(n, "flushed")
			}
			// One sector less.
			if next, e := slab.Put(d, first, first+size-1, b); next != 0 || e != api.ErrFull || len(d.Waits()) > 0 {
				t.Fatal(n, next, e, d.Waits())
			}
		}
	}
}

// P26.2: the bytes of some records, written out.
func TestPutExamples(t *testing.T) {
	d := opened(t, 4)
	put(t, d, 0, 1, nil)
	want := zero()
	want[63] = 2
	if s, _ := d.Read(0); !bytes.Equal(s, want) {
		t.Error(s)
	}
	put(t, d, 0, 1, []byte{5, 0, 6})
	want = zero()
	want[0], want[2], want[62], want[63] = 5, 6, 3, 2
	if s, _ := d.Read(0); !bytes.Equal(s, want) {
		t.Error(s)
	}
	put(t, d, 1, 4, bytes.Repeat([]byte{9}, 62))
	want = bytes.Repeat([]byte{9}, 64)
	want[62], want[63] = 62, 2
	if s, _ := d.Read(1); !bytes.Equal(s, want) {
		t.Error(s)
	}
	put(t, d, 2, 4, bytes.Repeat([]byte{9}, 63))
	want[63] = 1
	if s, _ := d.Read(2); !bytes.Equal(s, want) {
		t.Error(s)
	}
	want = zero()
	want[0], want[62], want[63] = 9, 1, 2
	if s, _ := d.Read(3); !bytes.Equal(s, want) {
		t.Error(s)
	}
	if l, next, e := slab.Scan(d, 0, 4); len(l) != 3 || next != 4 || e != api.OK {
		t.Error(l, next, e)
	}
}

// P26.2: the longest record, and longer ones.
func TestPutLong(t *testing.T) {
	d := opened(t, 1070)
	before := d.Image()
	for _, n := range []int{whole + 1, whole + 2, whole + 62, 2 * whole, 1070 * 62} {
		for _, end := range []int{3, 4, 1059, 1060, 1061, 1070} {
			if next, e := slab.Put(d, 3, end, make([]byte, n)); next != 0 || e != api.ErrLong {
				t.Error(n, end, next, e)
			}
		}
	}
	for _, n := range []int{whole, whole - 1} {
		for _, end := range []int{3, 4, 500, 1059, 1060} {
			if next, e := slab.Put(d, 3, end, make([]byte, n)); next != 0 || e != api.ErrFull {
				t.Error(n, end, next, e)
			}
		}
	}
	if !bytes.Equal(d.Image(), before) || len(d.Waits()) > 0 {
		t.Error(d.Waits())
	}
	for _, n := range []int{whole, whole - 1, whole - 2, whole - 3} {
		b := count(n)
		next := put(t, d, 3, 1061, b)
		if next != 3+slab.Need(n) {
			t.Error(n, next)
		}
		if got, after, e := slab.Get(d, 3, next); !bytes.Equal(got, b) || after != next || e != api.OK {
			t.Error(n, after, e)
		}
		if got, after, e := slab.Get(d, 3, next-1); got != nil || after != 0 || e != api.ErrNone {
			t.Error(n, after, e)
		}
	}
}

// P26.1, P26.2: wherever the power is lost, the sectors before that have been written; with the last one, it is not told.
func TestPutStopped(t *testing.T) {
	for _, n := range []int{0, 1, 62, 63, 124, 125, 300, 620} {
		b := count(n)
		want := parts(b)
		for calls := range len(want) + 2 {
			d := opened(t, len(want)+3)
			d.Stop(calls)
			next, e := slab.Put(d, 2, len(want)+3, b)
			if calls < len(want) && (next != 0 || e != api.ErrOff) || calls >= len(want) && (next != 2+len(want) || e != api.OK) {
				t.Error(n, calls, next, e)
			}
			written := min(calls, len(want))
			if d.Off() != (calls <= len(want)) || len(d.Waits()) != written {
				t.Error(n, calls, d.Off(), d.Waits())
			}
			for i, s := range sectorsOf(d)[2:] {
				if i < written && !bytes.Equal(s, want[i]) || i >= written && !bytes.Equal(s, zero()) {
					t.Error(n, calls, i, s)
				}
			}
		}
	}
}

// P26.3: what was put is there, in each run that contains it.
func TestGetScan(t *testing.T) {
	random := rand.New(rand.NewPCG(26, 2))
	lengths := []int{0, 1, 2, 61, 62, 63, 64, 123, 124, 125, 186, 187}
	for range 60 {
		d := opened(t, 16)
		at := random.IntN(4)
		for {
			b := some(random, lengths[random.IntN(len(lengths))])
			if at+len(parts(b)) > 16 {
				break
			}
			at = put(t, d, at, 16, b)
			if random.IntN(3) == 0 {
				d.Flush()
			}
		}
		same(t, d)
	}
}

// P26.3: a record goes as far as the run, not further.
func TestEndOfRun(t *testing.T) {
	d := of(t, slices.Concat([][]byte{zero()}, parts(count(130)), parts(nil), parts(count(62)))...)
	same(t, d)
	for end, want := range map[int]int{1: 0, 2: 0, 3: 0, 4: 1, 5: 2, 6: 3} {
		l, next, e := slab.Scan(d, 1, end)
		after := []int{1, 4, 5, 6}[want]
		if len(l) != want || next != after || e != api.OK {
			t.Error(end, l, next, e)
		}
	}
	for first := range 7 {
		if b, next, e := slab.Get(d, first, first); b != nil || next != 0 || e != api.ErrNone {
			t.Error(first, b, next, e)
		}
		if l, next, e := slab.Scan(d, first, first); len(l) > 0 || next != first || e != api.OK {
			t.Error(first, l, next, e)
		}
	}
}

// P26.3: each value that the last two bytes can have, with few bytes before them, with all, and with none.
func TestPieces(t *testing.T) {
	after := parts(count(3))
	for _, filled := range []int{0, 1, 30, 61, 62} {
		found := 0
		for used := range 256 {
			for _, mark := range []int{0, 1, 2, 3, 4, 5, 17, 18, 34, 66, 127, 128, 129, 130, 253, 254, 255} {
				s := append(count(filled), make([]byte, 64-filled)...)
				s[62], s[63] = byte(used), byte(mark)
				d := of(t, s, after[0], s, after[0])
				b, n := find([][]byte{s, after[0]})
				got, next, e := slab.Get(d, 0, 4)
				if n == 0 && (got != nil || next != 0 || e != api.ErrNone) || n > 0 && (!bytes.Equal(got, b) || next != n || e != api.OK) {
					t.Fatal(filled, used, mark, got, next, e)
				}
				if n > 0 {
					found++
				}
				if used < 3 || used > 60 && used < 66 || used == filled {
					same(t, d)
				}
			}
		}
		// One that uses all bytes goes on, too.
		want := 62 - filled + 2
		if found != want {
			t.Error(filled, found, want)
		}
	}
}

// P26.3: each unused byte counts.
func TestUnused(t *testing.T) {
	for used := range 63 {
		for i := range 62 {
			s := part(count(used), 2)
			s[i] = 200
			d := of(t, s)
			b, next, e := slab.Get(d, 0, 1)
			if i < used && (!bytes.Equal(b, s[:used]) || next != 1 || e != api.OK) || i >= used && (b != nil || next != 0 || e != api.ErrNone) {
				t.Error(used, i, b, next, e)
			}
		}
	}
}

// P26.3: a record has as few pieces as possible: its last one is not empty.
func TestEmptyEnd(t *testing.T) {
	for full := range 4 {
		var l [][]byte
		for range full {
			l = append(l, part(count(62), 1))
		}
		d := of(t, append(l, part(nil, 2), part(count(1), 2))...)
		same(t, d)
		b, next, e := slab.Get(d, 0, full+2)
		if full == 0 && (len(b) > 0 || next != 1 || e != api.OK) || full > 0 && (b != nil || next != 0 || e != api.ErrNone) {
			t.Error(full, b, next, e)
		}
	}
}

// P26.3: what a sector in between must not be.
func TestBroken(t *testing.T) {
	random := rand.New(rand.NewPCG(26, 3))
	for _, s := range [][]byte{zero(), part(count(61), 1), part(nil, 1), part(count(62), 0), part(count(62), 3), part(nil, 2), bytes.Repeat([]byte{255}, 64), part(count(5), 2), part(count(62), 2)} {
		for i := range 6 {
			l := slices.Concat(parts(count(10)), parts(count(200)), parts(some(random, 62)))
			l[i] = s
			same(t, of(t, l...))
		}
	}
}

// P26.3: longer than a record can be.
func TestTooLong(t *testing.T) {
	full := slices.Repeat([][]byte{part(count(62), 1)}, wholeOf-1)
	for n := range 63 {
		d := of(t, slices.Concat(parts(count(1)), full, [][]byte{part(count(n), 2)}, parts(count(2)))...)
		b, next, e := slab.Get(d, 1, d.Len())
		l, end, failed := slab.Scan(d, 0, d.Len())
		if failed != api.OK {
			t.Fatal(failed)
		}
		if n == 0 || n > wholeEnd {
			if b != nil || next != 0 || e != api.ErrNone || len(l) != 1 || end != 1 {
				t.Error(n, len(b), next, e, len(l), end)
			}
			continue
		}
		if len(b) != whole-wholeEnd+n || next != 1+wholeOf || e != api.OK || len(l) != 3 || end != d.Len() {
			t.Error(n, len(b), next, e, len(l), end)
		}
	}
	for _, more := range []int{1, 2, 100, 3000} {
		pieces := slices.Concat(full, slices.Repeat(full[:1], more))
		for _, last := range [][]byte{part(nil, 2), part(count(1), 2), part(count(2), 2), part(count(62), 2), zero()} {
			d, e := disk.Of(slices.Concat(append(pieces[:min(len(pieces), 4000)], last)...))
			if e != api.OK {
				t.Fatal(e)
			}
			if b, next, e := slab.Get(d, 0, d.Len()); b != nil || next != 0 || e != api.ErrNone {
				t.Error(more, len(b), next, e)
			}
			if l, next, e := slab.Scan(d, 0, d.Len()); len(l) > 0 || next != 0 || e != api.OK {
				t.Error(more, len(l), next, e)
			}
		}
	}
}

// P26.3: of any sectors.
func TestRandom(t *testing.T) {
	random := rand.New(rand.NewPCG(26, 4))
	for range 300 {
		var l [][]byte
		for range 1 + random.IntN(8) {
			var s []byte
			switch random.IntN(8) {
			case 0:
				s = some(random, 64)
			case 1:
				s = zero()
			case 2, 3:
				s = part(some(random, 62), byte(random.IntN(4)))
			case 4:
				s = part(some(random, random.IntN(63)), byte(random.IntN(4)))
			case 5:
				s = part(some(random, random.IntN(63)), 2)
				s[random.IntN(64)] ^= 1 << random.IntN(8)
			default:
				s = part(some(random, 62), 1)
			}
			l = append(l, s)
		}
		same(t, of(t, l...))
	}
}

// P26.4: each byte of a sector counts; other sectors stay, and nothing is flushed.
func TestWipe(t *testing.T) {
	for i := range 64 {
		for _, c := range []byte{1, 2, 128, 255} {
			s := zero()
			s[i] = c
			d := of(t, s, zero(), s, s)
			if n, e := slab.Wipe(d, 1, 3); n != 1 || e != api.OK {
				t.Error(i, c, n, e)
			}
			if !bytes.Equal(d.Image(), slices.Concat(s, zero(), zero(), s)) || !slices.Equal(d.Waits(), []int{2}) {
				t.Error(i, c, d.Image(), d.Waits())
			}
			if n, e := slab.Wipe(d, 1, 3); n != 0 || e != api.OK {
				t.Error(i, c, n, e)
			}
			d.Crash(nil)
			if !bytes.Equal(d.Image(), slices.Concat(s, zero(), s, s)) {
				t.Error(i, c, d.Image())
			}
			if n, e := slab.Wipe(d, 0, 4); n != 3 || e != api.OK {
				t.Error(i, c, n, e)
			}
			if !bytes.Equal(d.Image(), make([]byte, 256)) || !slices.Equal(d.Waits(), []int{0, 2, 3}) {
				t.Error(i, c, d.Image(), d.Waits())
			}
		}
	}
	d := of(t, parts(count(200))...)
	for first := range 5 {
		if n, e := slab.Wipe(d, first, first); n != 0 || e != api.OK || len(d.Waits()) > 0 {
			t.Error(first, n, e)
		}
	}
}

// P26.4: what waits counts, not what is safe.
func TestWipeWaiting(t *testing.T) {
	d := of(t, count(64), count(64), zero(), zero())
	d.Write(1, zero())
	d.Write(3, count(64))
	if n, e := slab.Wipe(d, 0, 4); n != 2 || e != api.OK {
		t.Error(n, e)
	}
	if !bytes.Equal(d.Image(), make([]byte, 256)) || !slices.Equal(d.Waits(), []int{0, 1, 3}) {
		t.Error(d.Image(), d.Waits())
	}
}

// P26.1, P26.4: wherever the power is lost; before a sector that need not be written, too.
func TestWipeStopped(t *testing.T) {
	for pattern := range 64 {
		var l [][]byte
		var written []int
		for i := range 6 {
			if pattern>>i&1 == 0 {
				l = append(l, zero())
				continue
			}
			l = append(l, count(64))
			written = append(written, i)
		}
		for calls := range len(written) + 2 {
			d := of(t, l...)
			d.Stop(calls)
			n, e := slab.Wipe(d, 0, 6)
			// It is lost with the access to this sector.
			lost := -1
			if 0 < calls && calls <= len(written) {
				lost = written[calls-1]
			}
			if calls == 0 || lost >= 0 && lost < 5 {
				if n != 0 || e != api.ErrOff {
					t.Error(pattern, calls, n, e)
				}
			} else if n != len(written) || e != api.OK {
				t.Error(pattern, calls, n, e)
			}
			done := written[:min(calls, len(written))]
			if !slices.Equal(d.Waits(), done) {
				t.Error(pattern, calls, d.Waits(), done)
			}
			for i, s := range sectorsOf(d) {
				if slices.Contains(done, i) && !bytes.Equal(s, zero()) || !slices.Contains(done, i) && !bytes.Equal(s, l[i]) {
					t.Error(pattern, calls, i, s)
				}
			}
		}
	}
}

// P26.4: no call but Put and Wipe is counted.
func TestReadsAreFree(t *testing.T) {
	d := of(t, parts(count(200))...)
	d.Stop(1)
	for range 5 {
		slab.Get(d, 0, 4)
		slab.Scan(d, 0, 4)
		slab.Wipe(d, 4, 4)
	}
	if d.Off() {
		t.Error("off")
	}
}

// kept is a random list of what is kept of a disk with so many sectors: mostly much, so that records go on.
func kept(random *rand.Rand, sectors int) []api.Kept {
	var l []api.Kept
	for i := range sectors {
		switch random.IntN(6) {
		case 0:
			l = append(l, api.Kept{Sector: i, Bytes: random.IntN(64)})
		case 1:
			l = append(l, api.Kept{Sector: i, Bytes: 63})
		case 2:
		default:
			l = append(l, api.Kept{Sector: i, Bytes: 64})
		}
	}
	return l
}

// P26.5: whatever a crash keeps, the records are the first ones, and those that were flushed; wherever the power is lost, too.
func TestCrash(t *testing.T) {
	random := rand.New(rand.NewPCG(26, 5))
	lost := 0
	for range 5000 {
		sectors := 1 + random.IntN(24)
		first := random.IntN(sectors)
		d := opened(t, sectors)
		if random.IntN(2) > 0 {
			d.Stop(random.IntN(20))
		}
		var l [][]byte
		sure, at := 0, first
		for random.IntN(20) > 0 {
			b := make([]byte, random.IntN(200))
			if random.IntN(2) > 0 {
				b = some(random, len(b))
			}
			next, e := slab.Put(d, at, sectors, b)
			if e == api.ErrFull {
				break
			}
			l = append(l, b)
			if e != api.OK {
				break
			}
			at = next
			if random.IntN(4) == 0 && d.Flush() == api.OK {
				sure = len(l)
			}
		}
		d.Crash(kept(random, sectors))
		got, _, e := slab.Scan(d, first, sectors)
		if e != api.OK || len(got) < sure || len(got) > len(l) || !slices.EqualFunc(got, l[:len(got)], bytes.Equal) {
			t.Fatalf("%d of %d records: %d, %d", sure, len(l), len(got), e)
		}
		if len(got) < len(l) {
			lost++
		}
	}
	if lost < 1000 {
		t.Error("hardly any were lost:", lost)
	}
}

// P26.5: each prefix of each piece: only a whole record is one.
func TestCrashEach(t *testing.T) {
	for _, n := range []int{0, 1, 30, 61, 62, 63, 100, 124, 125} {
		for _, b := range [][]byte{make([]byte, n), count(n)} {
			size := len(parts(b))
			for i := range size {
				for bytesKept := range 65 {
					d := opened(t, size+2)
					at := put(t, d, 0, size+2, []byte{7})
					d.Flush()
					at = put(t, d, at, size+2, b)
					put(t, d, at, size+2, nil)
					l := []api.Kept{{Sector: 1 + i, Bytes: bytesKept}}
					for k := range size + 2 {
						l = append(l, api.Kept{Sector: k, Bytes: 64})
					}
					d.Crash(l)
					want := 1
					if bytesKept == 64 {
						want = 3
					}
					if got, _, e := slab.Scan(d, 0, size+2); len(got) != want || e != api.OK {
						t.Fatal(n, i, bytesKept, got, e)
					}
				}
			}
		}
	}
}

// spoil overwrites b, and the room behind it.
func spoil(b []byte) {
	b = b[:cap(b)]
	for i := range b {
		b[i] = 0xee
	}
}

// P26.2, P26.3, R3: what goes in, and what comes out, is memory of its own.
func TestMemory(t *testing.T) {
	for _, n := range []int{0, 1, 61, 62, 63, 124, 200} {
		long := count(400)
		d := opened(t, 12)
		at := put(t, d, 0, 12, long[:n])
		at = put(t, d, at, 12, long[:n])
		put(t, d, at, 12, long[:1])
		if !bytes.Equal(long, count(400)) {
			t.Error(n, long)
		}
		spoil(long)
		want := [][]byte{count(n), count(n), count(1)}
		for range 2 {
			b, _, _ := slab.Get(d, 0, 12)
			l, _, _ := slab.Scan(d, 0, 12)
			if !bytes.Equal(b, want[0]) || !slices.EqualFunc(l, want, bytes.Equal) {
				t.Fatal(n, b, l)
			}
			kept, _, _ := slab.Get(d, 0, 12)
			spoil(b)
			for i := range l {
				spoil(l[i])
				for k := i + 1; k < len(l); k++ {
					if !bytes.Equal(l[k], want[k]) {
						t.Error(n, i, k)
					}
				}
			}
			l[0] = nil
			if !bytes.Equal(kept, want[0]) {
				t.Error(n, kept)
			}
		}
	}
}
