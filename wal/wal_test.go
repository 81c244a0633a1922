package wal_test

import (
	"bytes"
	"math/rand/v2"
	"slices"
	"testing"

	"copse/api"
	"copse/crc"
	"copse/disk"
	"copse/wal"
)

const (
	least = -1 << 63
	most  = 1<<63 - 1
	last  = 1 << 40 // the greatest generation
)

func opened(t *testing.T, sectors int) *disk.Disk {
	t.Helper()
	d, e := disk.New(sectors)
	if e != api.OK {
		t.Fatal(e)
	}
	return d
}

// of is a disk with these sectors.
func of(t *testing.T, sectors ...[]byte) *disk.Disk {
	t.Helper()
	d, e := disk.Of(slices.Concat(sectors...))
	if e != api.OK {
		t.Fatal(e)
	}
	return d
}

// again is a disk that contains what d does, all of it safe.
func again(t *testing.T, d *disk.Disk) *disk.Disk {
	t.Helper()
	return of(t, d.Image())
}

// count is n bytes, none of them 0, and few of them equal to their neighbours.
func count(n int) []byte {
	b := make([]byte, n)
	for i := range b {
		b[i] = byte(1 + i*7%255)
	}
	return b
}

func some(random *rand.Rand, n int) []byte {
	b := make([]byte, n)
	for i := range b {
		b[i] = byte(random.Uint32())
	}
	return b
}

func fill(c byte) []byte {
	return bytes.Repeat([]byte{c}, 64)
}

// head is the head of a generation by the words.
func head(g int) []byte {
	number := []byte{byte(g >> 56), byte(g >> 48), byte(g >> 40), byte(g >> 32), byte(g >> 24), byte(g >> 16), byte(g >> 8), byte(g)}
	return slices.Concat(number, make([]byte, 48), number)
}

// parts is the sectors of the record of b by the words.
func parts(b []byte) [][]byte {
	part := func(b []byte, mark byte) []byte {
		return slices.Concat(b, make([]byte, 62-len(b)), []byte{byte(len(b)), mark})
	}
	var l [][]byte
	for len(b) > 62 {
		l = append(l, part(b[:62], 1))
		b = b[62:]
	}
	return append(l, part(b, 2))
}

// sealed is the sectors of the record of b, sealed.
func sealed(b []byte) [][]byte {
	return parts(crc.Seal(b))
}

// region is the first sector of a region of a disk of so many sectors, and the one after it.
func region(sectors, number int) (int, int) {
	half := (sectors - 2) / 2
	return 2 + number*half, 2 + (number+1)*half
}

// drawn is a disk of so many sectors with these heads, and these sectors from the beginning of the regions on; the rest is zero.
func drawn(t *testing.T, sectors int, heads [2][]byte, regions [2][][]byte) *disk.Disk {
	t.Helper()
	l := make([][]byte, sectors)
	for i := range l {
		l[i] = fill(0)
	}
	for i, h := range heads {
		if h != nil {
			l[i] = h
		}
		first, _ := region(sectors, i)
		copy(l[first:], regions[i])
	}
	return of(t, l...)
}

// call is a call of Write, or one of Flush if there is no sector.
type call struct {
	at     int
	sector []byte
}

func (c call) on(t *testing.T, d *disk.Disk) {
	t.Helper()
	e := api.OK
	if c.sector == nil {
		e = d.Flush()
	} else {
		e = d.Write(c.at, c.sector)
	}
	if e != api.OK {
		t.Fatal(e)
	}
}

// puts is the calls that write sectors from at on.
func puts(at int, sectors [][]byte) []call {
	var l []call
	for i, s := range sectors {
		l = append(l, call{at + i, s})
	}
	return l
}

// wipes is the calls that wipe the sectors from at to end.
func wipes(d *disk.Disk, at, end int) []call {
	var l []call
	for i, s := range slices.Collect(slices.Chunk(d.Image(), 64)) {
		if i >= at && i < end && !bytes.Equal(s, fill(0)) {
			l = append(l, call{i, fill(0)})
		}
	}
	return l
}

// stores is the calls that store base on d as a generation, by the words.
func stores(d *disk.Disk, generation int, base []byte) []call {
	first, end := region(d.Len(), generation%2)
	l := puts(first, sealed(base))
	l = append(l, wipes(d, first+len(l), end)...)
	return append(l, call{}, call{generation % 2, head(generation)}, call{})
}

// stops fails if do does anything else on the disks that begin makes than these calls, one after the other, wherever the power is lost.
func stops(t *testing.T, begin func() *disk.Disk, calls []call, do func(d *disk.Disk) api.Errno) {
	t.Helper()
	for n := range len(calls) + 3 {
		d, model := begin(), begin()
		if n == len(calls)+2 {
			d.Stop(-1)
		} else {
			d.Stop(n)
		}
		e := do(d)
		if wanted := n == 0 || n < len(calls); wanted != (e == api.ErrOff) || !wanted && e != api.OK {
			t.Fatal(n, e)
		}
		for _, c := range calls[:min(n, len(calls))] {
			c.on(t, model)
		}
		if !bytes.Equal(d.Image(), model.Image()) || !slices.Equal(d.Waits(), model.Waits()) || d.Off() != (n <= len(calls)) {
			t.Fatal(n, d.Waits(), model.Waits(), d.Off())
		}
	}
}

// is fails if l is another log.
func is(t *testing.T, l *wal.Log, generation, sure, room int, base []byte, notes ...[]byte) {
	t.Helper()
	if got := l.Base(); !bytes.Equal(got, base) {
		t.Errorf("base %x, not %x", got, base)
	}
	if got := l.Notes(); !slices.EqualFunc(got, notes, bytes.Equal) {
		t.Errorf("notes %x, not %x", got, notes)
	}
	if l.Generation() != generation || l.Sure() != sure || l.Room() != room {
		t.Error(l.Generation(), l.Sure(), l.Room(), "not", generation, sure, room)
	}
	for _, n := range []int{least, -1, 0, 1, 58, 59, 120, 121, 62*room - 5, 62*room - 4, 62*room - 3, 65532, 65533, 1 << 32, most - 4, most - 3, most} {
		if l.Fits(n) != (room > 0 && max(n, 0) <= min(62*room-4, 65532)) {
			t.Error("fits", room, n, l.Fits(n))
		}
	}
}

// begun is a log of base on d.
func begun(t *testing.T, d *disk.Disk, base []byte) *wal.Log {
	t.Helper()
	l, e := wal.Begin(d, base)
	if l == nil || e != api.OK {
		t.Fatal(e)
	}
	return l
}

// reopened is the log that is on d.
func reopened(t *testing.T, d *disk.Disk) *wal.Log {
	t.Helper()
	l, e := wal.Open(d)
	if l == nil || e != api.OK {
		t.Fatal(e)
	}
	return l
}

// appends appends notes.
func appends(t *testing.T, l *wal.Log, notes ...[]byte) {
	t.Helper()
	for _, n := range notes {
		if e := l.Append(n); e != api.OK {
			t.Fatal(e)
		}
	}
}

// begins and opens expect an error of Begin and of Open, and that nothing happens to d.
func begins(t *testing.T, d *disk.Disk, base []byte, want api.Errno) {
	t.Helper()
	before, waits := d.Image(), d.Waits()
	if l, e := wal.Begin(d, base); l != nil || e != want {
		t.Error(len(base), l, e, "not", want)
	}
	if !bytes.Equal(d.Image(), before) || !slices.Equal(d.Waits(), waits) {
		t.Error("the disk has changed")
	}
}

func opens(t *testing.T, d *disk.Disk, want api.Errno) {
	t.Helper()
	before, waits := d.Image(), d.Waits()
	if l, e := wal.Open(d); l != nil || e != want {
		t.Error(l, e, "not", want)
	}
	if !bytes.Equal(d.Image(), before) || !slices.Equal(d.Waits(), waits) {
		t.Error("the disk has changed")
	}
}

// P27.1: what comes before the power.
func TestWithoutDisk(t *testing.T) {
	for _, n := range []int{0, 58, 59, 65532, 65533, 100000} {
		begins(t, nil, count(n), api.ErrShut)
	}
	opens(t, nil, api.ErrShut)
	for n := 1; n < 4; n++ {
		d := opened(t, n)
		for _, size := range []int{0, 1, 58, 59, 100000} {
			begins(t, d, count(size), api.ErrArg)
		}
		opens(t, d, api.ErrArg)
		d.Stop(0)
		begins(t, d, nil, api.ErrArg)
		begins(t, d, count(100000), api.ErrArg)
		opens(t, d, api.ErrArg)
	}
}

// P27.1, the chapter's example.
func TestBegin(t *testing.T) {
	for _, sectors := range []int{4, 5, 6, 7, 10, 11, 12, 100} {
		half := (sectors - 2) / 2
		for _, size := range []int{0, 1, 57, 58, 59, 120, 121, 62*half - 5, 62*half - 4} {
			if size > 62*half-4 {
				continue
			}
			d, base := opened(t, sectors), count(size)
			l := begun(t, d, base)
			s := sealed(base)
			is(t, l, 1, 0, half-len(s), base)
			if !bytes.Equal(d.Image(), drawn(t, sectors, [2][]byte{1: head(1)}, [2][][]byte{1: s}).Image()) || len(d.Waits()) > 0 {
				t.Fatal(sectors, size)
			}
			is(t, reopened(t, d), 1, 0, half-len(s), base)
		}
	}
	d := opened(t, 10)
	begun(t, d, count(7))
	for i, s := range slices.Collect(slices.Chunk(d.Image(), 64)) {
		if (i == 1 || i == 6) != !bytes.Equal(s, fill(0)) {
			t.Errorf("%d: %x", i, s)
		}
	}
}

// P27.1: a base needs room in a region, and is a record.
func TestBeginFull(t *testing.T) {
	for _, sectors := range []int{4, 5, 6, 7, 10, 11, 100, 2116, 2117, 2118, 2119, 4095, 4096} {
		half := (sectors - 2) / 2
		fit := min(62*half-4, 65532)
		d := opened(t, sectors)
		d.Write(1, head(last))
		for _, size := range []int{fit + 1, fit + 2, fit + 3, fit + 4, fit + 5, fit + 62, fit + 1000, 200000} {
			begins(t, d, count(size), api.ErrFull)
		}
		begins(t, again(t, d), count(fit+1), api.ErrFull)
		d.Write(1, fill(0))
		l := begun(t, again(t, d), count(fit))
		is(t, l, 1, 0, half-len(sealed(count(fit))), count(fit))
		d.Stop(0)
		begins(t, d, count(fit+1), api.ErrFull)
		begins(t, d, count(200000), api.ErrFull)
		begins(t, d, count(fit), api.ErrOff)
	}
}

// P27.1: the calls of Begin, whatever the disk contains.
func TestBeginCalls(t *testing.T) {
	random := rand.New(rand.NewPCG(27, 1))
	for range 200 {
		sectors := 4 + random.IntN(12)
		half := (sectors - 2) / 2
		image := make([]byte, 0, 64*sectors)
		for range sectors {
			image = append(image, [][]byte{fill(0), fill(0), fill(9), slices.Concat(make([]byte, 63), []byte{1}), slices.Concat([]byte{1}, make([]byte, 63)), some(random, 64)}[random.IntN(6)]...)
		}
		generation := 1
		for i := range 2 {
			copy(image[64*i:], fill(0))
			if g := 2*random.IntN(4) + i; g > 0 && random.IntN(3) > 0 {
				copy(image[64*i:], head(g))
				generation = max(generation, g+1)
			}
		}
		begin := func() *disk.Disk {
			d := of(t, image)
			// What is waiting on other sectors is flushed with the rest.
			d.Write(sectors-1, fill(3))
			return d
		}
		base := some(random, random.IntN(62*half-3))
		stops(t, begin, stores(begin(), generation, base), func(d *disk.Disk) api.Errno {
			l, e := wal.Begin(d, base)
			if (l != nil) != (e == api.OK) {
				t.Fatal(l, e)
			}
			if l != nil {
				is(t, l, generation, 0, half-len(sealed(base)), base)
			}
			return e
		})
	}
}

// changed is b with another byte at i.
func changed(b []byte, i int, c byte) []byte {
	b = slices.Clone(b)
	b[i] = c
	return b
}

// headless is sectors that contain no head in the sector i.
func headless(i int) [][]byte {
	var l [][]byte
	for _, g := range []int{2 + i, 256 + i, last - 2 + i} {
		h := head(g)
		// The bytes of little-endian order are the mirrored ones.
		little := slices.Clone(h)
		slices.Reverse(little)
		l = append(l, head(g+1), head(g-1), fill(byte(g)), little, slices.Concat(h[:8], make([]byte, 56)), slices.Concat(make([]byte, 56), h[56:]))
		for at := 8; at < 56; at++ {
			l = append(l, changed(h, at, 1), changed(h, at, 255))
		}
		for _, at := range []int{0, 1, 6, 7, 56, 57, 62, 63} {
			l = append(l, changed(h, at, h[at]+1), changed(h, at, h[at]+2), changed(h, at, h[at]+128))
		}
	}
	for _, g := range []int{0, last + 1, last + 2, 2*last + i, -1, -2, least, least + 1, most, most - 1, 1 << 62, 1<<62 + 1} {
		l = append(l, head(g))
	}
	return l
}

// both is one of a pair at i, and the other one.
func both[E any](i int, one, other E) [2]E {
	l := [2]E{other, other}
	l[i] = one
	return l
}

// P27.1: which sectors contain heads.
func TestHeads(t *testing.T) {
	logs := [2][][]byte{sealed([]byte("zero")), sealed([]byte("one"))}
	names := []string{"zero", "one"}
	for i := range 2 {
		for k, s := range headless(i) {
			d := drawn(t, 10, both(i, s, nil), logs)
			opens(t, d, api.ErrNone)
			is(t, begun(t, d, []byte("b")), 1, 0, 3, []byte("b"))
			// The other sector's head holds, even one of the least generation.
			d = drawn(t, 10, both(i, s, head(1+i)), logs)
			l := reopened(t, d)
			if string(l.Base()) != names[1-i] || l.Generation() != 1+i {
				t.Fatal(i, k, string(l.Base()), l.Generation())
			}
		}
	}
	opens(t, opened(t, 4), api.ErrNone)
	opens(t, opened(t, 4096), api.ErrNone)
}

// P27.1: which head is the current one.
func TestCurrent(t *testing.T) {
	logs := [2][][]byte{sealed([]byte("zero")), sealed([]byte("one"))}
	names := []string{"zero", "one"}
	for _, g := range []int{1, 2, 3, 4, 200, 201, 239, 240, 254, 255, 256, 257, 258, 511, 512, 513, 65535, 65536, 1<<32 - 1, 1 << 32, 1<<32 + 1, 1<<39 + 1, last - 2, last - 1, last} {
		name := []byte(names[g%2])
		is(t, reopened(t, drawn(t, 10, both(g%2, head(g), nil), logs)), g, 0, 3, name)
		for _, older := range []int{1, 2, g - 1, g - 3, g - 255} {
			if older < 1 || older > g || older%2 == g%2 {
				continue
			}
			d := drawn(t, 10, both(g%2, head(g), head(older)), logs)
			is(t, reopened(t, d), g, 0, 3, name)
			if g < last {
				is(t, begun(t, d, []byte("b")), g+1, 0, 3, []byte("b"))
				is(t, reopened(t, d), g+1, 0, 3, []byte("b"))
			}
		}
	}
}

// P27.1, P27.2: the last generation.
func TestLastGeneration(t *testing.T) {
	logs := [2][][]byte{sealed([]byte("zero")), sealed([]byte("one"))}
	for _, older := range [][]byte{nil, head(1), head(last - 1), head(last + 1)} {
		d := drawn(t, 10, [2][]byte{head(last), older}, logs)
		begins(t, d, []byte("b"), api.ErrLong)
		begins(t, d, nil, api.ErrLong)
		begins(t, d, count(245), api.ErrFull)
		l := reopened(t, d)
		is(t, l, last, 0, 3, []byte("zero"))
		appends(t, l, []byte("n"))
		for range 2 {
			if e := l.Switch([]byte("b")); e != api.ErrLong {
				t.Error(e)
			}
			if e := l.Switch(count(245)); e != api.ErrFull {
				t.Error(e)
			}
			is(t, l, last, 0, 2, []byte("zero"), []byte("n"))
			if got := d.Waits(); !slices.Equal(got, []int{3}) {
				t.Error(got)
			}
			d.Stop(0)
		}
		begins(t, d, []byte("b"), api.ErrOff)
		begins(t, d, count(245), api.ErrFull)
		// Those errors came before that of the power: the log is not dead.
		d.Crash([]api.Kept{{Sector: 3, Bytes: 64}})
		appends(t, l, []byte("m"))
		if e := l.Sync(); e != api.OK {
			t.Error(e)
		}
		is(t, l, last, 2, 1, []byte("zero"), []byte("n"), []byte("m"))
	}
	d := drawn(t, 10, [2][]byte{nil, head(last - 1)}, logs)
	l := reopened(t, again(t, d))
	if e := l.Switch([]byte("b")); e != api.OK {
		t.Error(e)
	}
	is(t, l, last, 0, 3, []byte("b"))
	is(t, begun(t, d, []byte("b")), last, 0, 3, []byte("b"))
}

// P27.1: which records belong to a log.
func TestOpen(t *testing.T) {
	base, one, two, long := []byte("base"), []byte{}, []byte("two"), count(100)
	wrong := changed(sealed(two)[0], 0, 'T')
	record := func(b []byte) []byte { return parts(b)[0] }
	join := func(l ...[][]byte) [][]byte { return slices.Concat(l...) }
	for i, c := range []struct {
		sectors [][]byte
		notes   [][]byte
		used    int
	}{
		{sealed(base), nil, 1},
		{join(sealed(base), sealed(one)), [][]byte{one}, 2},
		{join(sealed(base), sealed(one), sealed(two), sealed(long)), [][]byte{one, two, long}, 5},
		{join(sealed(base), sealed(long), sealed(long), sealed(long)), [][]byte{long, long, long}, 7},
		{join(sealed(base), sealed(count(368))), [][]byte{count(368)}, 7},
		{join(sealed(base), [][]byte{fill(0)}, sealed(two)), nil, 1},
		{join(sealed(base), sealed(two), [][]byte{fill(0)}, sealed(two)), [][]byte{two}, 2},
		{join(sealed(base), [][]byte{wrong}), nil, 1},
		{join(sealed(base), [][]byte{wrong}, sealed(two)), nil, 1},
		{join(sealed(base), sealed(two), [][]byte{wrong}, sealed(two)), [][]byte{two}, 2},
		{join(sealed(base), sealed(two), sealed(long)[:1], sealed(two)), [][]byte{two}, 2},
		{join(sealed(base), sealed(two), sealed(long)[1:]), [][]byte{two}, 2},
		{join(sealed(base), sealed(two), sealed(long), sealed(count(400))[:2]), [][]byte{two, long}, 4},
		{join(sealed(base), [][]byte{record(nil)}, sealed(two)), nil, 1},
		{join(sealed(base), [][]byte{record([]byte{0, 0, 0})}, sealed(two)), nil, 1},
		{join(sealed(base), [][]byte{record([]byte{0, 0, 0, 1})}, sealed(two)), nil, 1},
		{join(sealed(base), [][]byte{record([]byte{0, 0, 0, 0})}, sealed(two)), [][]byte{nil, two}, 3},
		{join(sealed(base), sealed(two), [][]byte{fill(5), fill(0), fill(0), fill(0), fill(7)}), [][]byte{two}, 2},
		{join(sealed(base), sealed(two), [][]byte{fill(0), fill(0), fill(0), fill(0), changed(fill(0), 63, 1)}), [][]byte{two}, 2},
	} {
		for _, sectors := range []int{16, 17} {
			for generation := 1; generation < 5; generation++ {
				at := generation % 2
				other := [][]byte{fill(1), fill(2), fill(3), fill(4), fill(5), fill(6), fill(7)}
				heads, regions := [2][]byte{head(1), head(1)}, [2][][]byte{other, other}
				heads[at], regions[at] = head(generation), c.sectors
				begin := func() *disk.Disk { return drawn(t, sectors, heads, regions) }
				first, end := region(sectors, at)
				calls := wipes(begin(), first+c.used, end)
				if len(calls) > 0 {
					calls = append(calls, call{})
				}
				stops(t, begin, calls, func(d *disk.Disk) api.Errno {
					l, e := wal.Open(d)
					if (l != nil) != (e == api.OK) {
						t.Fatal(i, l, e)
					}
					if l != nil {
						is(t, l, generation, len(c.notes), 7-c.used, base, c.notes...)
					}
					return e
				})
			}
		}
	}
}

// P27.1: a log has a base.
func TestOpenWithoutBase(t *testing.T) {
	base, log := sealed([]byte("base")), sealed([]byte("older"))
	for i, l := range [][][]byte{nil, {fill(0), base[0]}, {fill(9), base[0]}, {changed(base[0], 1, 'A'), base[0]}, parts(nil), parts([]byte{0, 0, 0}), parts([]byte("base")), sealed(count(100))[:1], sealed(count(100))[1:], {changed(base[0], 62, 9)}, {changed(base[0], 63, 1)}} {
		d := drawn(t, 10, [2][]byte{head(2), head(1)}, [2][][]byte{l, log})
		opens(t, d, api.ErrLog)
		d.Stop(0)
		opens(t, d, api.ErrOff)
		d = drawn(t, 10, [2][]byte{head(2), head(3)}, [2][][]byte{log, l})
		opens(t, d, api.ErrLog)
		if l := begun(t, d, []byte("b")); l.Generation() != 4 {
			t.Error(i, l.Generation())
		}
	}
	d := opened(t, 10)
	d.Stop(0)
	opens(t, d, api.ErrOff)
	begins(t, d, nil, api.ErrOff)
}

// P27.1: what waits is seen, and is not flushed if nothing is wiped.
func TestOpenWaiting(t *testing.T) {
	d := opened(t, 10)
	l := begun(t, d, []byte("base"))
	appends(t, l, []byte("one"), []byte("two"))
	is(t, l, 1, 0, 1, []byte("base"), []byte("one"), []byte("two"))
	is(t, reopened(t, d), 1, 2, 1, []byte("base"), []byte("one"), []byte("two"))
	if got := d.Waits(); !slices.Equal(got, []int{7, 8}) {
		t.Error(got)
	}
	d.Write(9, fill(1))
	is(t, reopened(t, d), 1, 2, 1, []byte("base"), []byte("one"), []byte("two"))
	if got := d.Waits(); len(got) > 0 {
		t.Error(got)
	}
}

// P27.2, P27.3
func TestAppend(t *testing.T) {
	d := opened(t, 12)
	l := begun(t, d, []byte("base"))
	is(t, l, 1, 0, 4, []byte("base"))
	notes := [][]byte{nil, count(58), count(59)}
	room := []int{4, 3, 2, 0}
	for i := range notes {
		if e := l.Append(notes[i]); e != api.OK {
			t.Fatal(e)
		}
		is(t, l, 1, 0, room[i+1], []byte("base"), notes[:i+1]...)
	}
	if got := d.Waits(); !slices.Equal(got, []int{8, 9, 10, 11}) {
		t.Error(got)
	}
	want := drawn(t, 12, [2][]byte{1: head(1)}, [2][][]byte{1: slices.Concat(sealed([]byte("base")), sealed(nil), sealed(count(58)), sealed(count(59)))})
	if !bytes.Equal(d.Image(), want.Image()) {
		t.Errorf("%x", d.Image())
	}
	for _, n := range [][]byte{nil, {1}, count(58), count(65533)} {
		if e := l.Append(n); e != api.ErrFull {
			t.Error(e)
		}
	}
	is(t, l, 1, 0, 0, []byte("base"), notes...)
	if e := l.Sync(); e != api.OK || len(d.Waits()) > 0 {
		t.Error(e, d.Waits())
	}
	is(t, l, 1, 3, 0, []byte("base"), notes...)
	d.Crash(nil)
	is(t, l, 1, 3, 0, []byte("base"), notes...)
	is(t, reopened(t, d), 1, 3, 0, []byte("base"), notes...)
}

// P27.2, P27.3: notes become safe together.
func TestSync(t *testing.T) {
	d := opened(t, 20)
	l := begun(t, d, []byte("b"))
	var notes [][]byte
	for i, sure := range []int{0, 0, 3, 3, 5, 5, 7} {
		notes = append(notes, []byte{byte(i)})
		appends(t, l, notes[i])
		if sure == i+1 {
			if e := l.Sync(); e != api.OK {
				t.Fatal(e)
			}
		}
		is(t, l, 1, sure, 7-i, []byte("b"), notes...)
		if again := reopened(t, of(t, d.Image())); again.Sure() != i+1 {
			t.Error(i, again.Sure())
		}
	}
	for range 2 {
		if e := l.Sync(); e != api.OK {
			t.Fatal(e)
		}
		is(t, l, 1, 7, 1, []byte("b"), notes...)
	}
}

// P27.2: what Append, Sync and Switch call.
func TestCalls(t *testing.T) {
	random := rand.New(rand.NewPCG(27, 2))
	for range 300 {
		sectors := 8 + random.IntN(12)
		half := (sectors - 2) / 2
		var sectorsOf [][]byte
		var notes [][]byte
		base, note, next := some(random, random.IntN(59)), some(random, random.IntN(62*(half-2)-3)), some(random, random.IntN(62*half-3))
		for used := 1 + len(sealed(note)); used < half && random.IntN(3) > 0; used++ {
			notes = append(notes, some(random, random.IntN(59)))
		}
		for _, b := range append([][]byte{base}, notes...) {
			sectorsOf = append(sectorsOf, sealed(b)...)
		}
		var junk [][]byte
		for range half {
			junk = append(junk, [][]byte{fill(0), fill(1), some(random, 64)}[random.IntN(3)])
		}
		generation := 1 + random.IntN(6)
		at := generation % 2
		heads, regions := [2][]byte{}, [2][][]byte{junk, junk}
		heads[at], regions[at] = head(generation), sectorsOf
		begin := func() *disk.Disk { return drawn(t, sectors, heads, regions) }
		first, _ := region(sectors, at)
		room := half - len(sectorsOf)
		for _, c := range []struct {
			calls []call
			do    func(l *wal.Log) api.Errno
			after func(l *wal.Log)
		}{
			{puts(first+len(sectorsOf), sealed(note)), func(l *wal.Log) api.Errno { return l.Append(note) }, func(l *wal.Log) {
				is(t, l, generation, len(notes), room-len(sealed(note)), base, append(slices.Clone(notes), note)...)
			}},
			{[]call{{}}, func(l *wal.Log) api.Errno { return l.Sync() }, func(l *wal.Log) {
				is(t, l, generation, len(notes), room, base, notes...)
			}},
			{stores(begin(), generation+1, next), func(l *wal.Log) api.Errno { return l.Switch(next) }, func(l *wal.Log) {
				is(t, l, generation+1, 0, half-len(sealed(next)), next)
			}},
		} {
			withLog(t, begin, c.calls, func(l *wal.Log) api.Errno {
				e := c.do(l)
				if e == api.OK {
					c.after(l)
					return e
				}
				is(t, l, generation, len(notes), room, base, notes...)
				dead(t, l, func() { is(t, l, generation, len(notes), room, base, notes...) })
				return e
			})
		}
	}
}

// withLog is stops for a log that is opened before the power can be lost.
func withLog(t *testing.T, begin func() *disk.Disk, calls []call, do func(l *wal.Log) api.Errno) {
	t.Helper()
	for n := range len(calls) + 3 {
		d, model := begin(), begin()
		l := reopened(t, d)
		if n < len(calls)+2 {
			d.Stop(n)
		}
		e := do(l)
		if wanted := n < len(calls); wanted != (e == api.ErrOff) || !wanted && e != api.OK {
			t.Fatal(n, e)
		}
		for _, c := range calls[:min(n, len(calls))] {
			c.on(t, model)
		}
		if !bytes.Equal(d.Image(), model.Image()) || !slices.Equal(d.Waits(), model.Waits()) || d.Off() != (n <= len(calls)) {
			t.Fatal(n, d.Waits(), model.Waits(), d.Off())
		}
	}
}

// dead fails if l is not dead, whatever it is asked.
func dead(t *testing.T, l *wal.Log, same func()) {
	t.Helper()
	for _, b := range [][]byte{nil, {1}, count(58), count(5000), count(65532), count(65533), count(200000)} {
		if e := l.Append(b); e != api.ErrOff {
			t.Error(len(b), e)
		}
		if e := l.Switch(b); e != api.ErrOff {
			t.Error(len(b), e)
		}
		if e := l.Sync(); e != api.ErrOff {
			t.Error(e)
		}
	}
	same()
}

// P27.2, P27.3: a dead log stays dead, even if the power is on again, and does nothing to the disk.
func TestDead(t *testing.T) {
	for i, do := range []func(l *wal.Log) api.Errno{
		func(l *wal.Log) api.Errno { return l.Append([]byte("c")) },
		func(l *wal.Log) api.Errno { return l.Sync() },
		func(l *wal.Log) api.Errno { return l.Switch([]byte("c")) },
	} {
		d := opened(t, 12)
		l := begun(t, d, []byte("base"))
		appends(t, l, []byte("a"))
		l.Sync()
		appends(t, l, []byte("b"))
		d.Stop(0)
		// Neither of these two looks at the power.
		if e := l.Append(count(1000)); e != api.ErrFull {
			t.Error(i, e)
		}
		if e := l.Switch(count(1000)); e != api.ErrFull {
			t.Error(i, e)
		}
		d.Crash([]api.Kept{{Sector: 9, Bytes: 64}})
		d.Stop(0)
		if e := do(l); e != api.ErrOff {
			t.Fatal(i, e)
		}
		same := func() { is(t, l, 1, 1, 2, []byte("base"), []byte("a"), []byte("b")) }
		dead(t, l, same)
		d.Crash(nil)
		before := d.Image()
		dead(t, l, same)
		if !bytes.Equal(d.Image(), before) || len(d.Waits()) > 0 {
			t.Error(i, "the disk has changed")
		}
		// Another log is not dead.
		m := reopened(t, d)
		is(t, m, 1, 2, 2, []byte("base"), []byte("a"), []byte("b"))
		appends(t, m, []byte("c"))
		dead(t, l, same)
	}
}

// P27.2: other errors do not make a log dead.
func TestFull(t *testing.T) {
	for _, sectors := range []int{4, 5, 10, 2118, 4096} {
		half := (sectors - 2) / 2
		d := opened(t, sectors)
		l := begun(t, d, []byte("base"))
		before := d.Image()
		for _, n := range []int{min(62*half-4, 65532) + 1, 65533, 62*half + 1, 200000} {
			if e := l.Switch(count(n)); (n > min(62*half-4, 65532)) != (e == api.ErrFull) {
				t.Error(sectors, n, e)
			}
		}
		for _, n := range []int{min(62*(half-1)-4, 65532) + 1, 62*half - 3, 65533, 200000} {
			if e := l.Append(count(max(n, 0))); e != api.ErrFull {
				t.Error(sectors, n, e)
			}
		}
		if !bytes.Equal(d.Image(), before) || len(d.Waits()) > 0 {
			t.Error("the disk has changed")
		}
		is(t, l, 1, 0, half-1, []byte("base"))
		if fit := min(62*(half-1)-4, 65532); fit > 0 {
			appends(t, l, count(fit))
			is(t, l, 1, 0, half-1-len(sealed(count(fit))), []byte("base"), count(fit))
		}
		fit := count(min(62*half-4, 65532))
		if e := l.Switch(fit); e != api.OK {
			t.Error(sectors, e)
		}
		is(t, l, 2, 0, half-len(sealed(fit)), fit)
		is(t, reopened(t, d), 2, 0, half-len(sealed(fit)), fit)
	}
}

// P27.2: the regions take turns, and what the older log had there is gone.
func TestSwitch(t *testing.T) {
	d := opened(t, 13)
	l := begun(t, d, []byte{1})
	for g := 1; g < 30; g++ {
		is(t, l, g, 0, 4, []byte{byte(g)})
		for i := range g % 5 {
			appends(t, l, count(i+g))
		}
		if g%2 == 0 {
			l.Sync()
		}
		if e := l.Switch([]byte{byte(g + 1)}); e != api.OK || len(d.Waits()) > 0 {
			t.Fatal(g, e, d.Waits())
		}
		first, end := region(13, (g+1)%2)
		sectors := slices.Collect(slices.Chunk(d.Image(), 64))
		if !bytes.Equal(sectors[(g+1)%2], head(g+1)) || !slices.EqualFunc(sectors[first:end], append(sealed([]byte{byte(g + 1)}), fill(0), fill(0), fill(0), fill(0)), bytes.Equal) {
			t.Fatal(g)
		}
		is(t, reopened(t, d), g+1, 0, 4, []byte{byte(g + 1)})
	}
}

// P27.3
func TestNil(t *testing.T) {
	var l *wal.Log
	for _, b := range [][]byte{nil, {1}, count(65533)} {
		if e := l.Append(b); e != api.ErrShut {
			t.Error(e)
		}
		if e := l.Switch(b); e != api.ErrShut {
			t.Error(e)
		}
	}
	if e := l.Sync(); e != api.ErrShut {
		t.Error(e)
	}
	if len(l.Base()) > 0 || len(l.Notes()) > 0 || l.Sure() != 0 || l.Generation() != 0 || l.Room() != 0 {
		t.Error("a nil log has something")
	}
	for _, n := range []int{least, -1, 0, 1, most} {
		if l.Fits(n) {
			t.Error(n)
		}
	}
}

// R3: a log keeps nothing that it was given, and gives nothing away.
func TestMemory(t *testing.T) {
	spoil := func(b []byte) {
		for i := range b[:cap(b)] {
			b[:cap(b)][i] = 0xee
		}
	}
	room := func(s string) []byte { return append(make([]byte, 0, 50), s...) }
	d := opened(t, 20)
	base, one, two := room("base"), room("one"), room("two")
	l := begun(t, d, base)
	appends(t, l, one, two)
	for _, b := range [][]byte{base, one, two} {
		if !bytes.Equal(b[:50][len(b):], make([]byte, 50-len(b))) {
			t.Error("what was handed in was changed")
		}
		spoil(b)
	}
	for range 2 {
		is(t, l, 1, 0, 6, []byte("base"), []byte("one"), []byte("two"))
		is(t, reopened(t, again(t, d)), 1, 2, 6, []byte("base"), []byte("one"), []byte("two"))
		spoil(l.Base())
		notes := l.Notes()
		for _, n := range notes {
			spoil(n)
		}
		clear(notes[:cap(notes)])
	}
	// A list of notes stays as it is.
	notes := l.Notes()
	appends(t, l, []byte("three"))
	if len(notes) != 2 || string(notes[1]) != "two" {
		t.Error(notes)
	}
	other := room("other")
	if e := l.Switch(other); e != api.OK || string(other) != "other" {
		t.Error(e)
	}
	spoil(other)
	is(t, l, 2, 0, 8, []byte("other"))
	m := reopened(t, d)
	spoil(m.Base())
	is(t, m, 2, 0, 8, []byte("other"))
	is(t, l, 2, 0, 8, []byte("other"))
	if string(notes[0]) != "one" {
		t.Error(notes)
	}
}

// kept is what a crash keeps, at random: most of it, little, or a part.
func kept(random *rand.Rand, d *disk.Disk) []api.Kept {
	var l []api.Kept
	for _, i := range d.Waits() {
		if random.IntN(4) > 0 {
			l = append(l, api.Kept{Sector: i, Bytes: []int{64, 64, 0, 1, 8, 30, 62, 63, random.IntN(70) - 2}[random.IntN(9)]})
		}
	}
	return l
}

// model is what a log that is opened may have.
type model struct {
	base  []byte
	notes [][]byte
	sure  int
	next  []byte // the base of a Switch during which the power was lost
}

// P27.4: wherever the power is lost, and whatever is kept.
func TestPower(t *testing.T) {
	random := rand.New(rand.NewPCG(27, 4))
	lost, switched, torn, all := 0, 0, 0, 0
	for range 400 {
		d := opened(t, 6+random.IntN(20))
		half := (d.Len() - 2) / 2
		m := model{base: some(random, random.IntN(59))}
		l := begun(t, d, m.base)
		for range 40 {
			d.Stop(random.IntN(12))
			for !d.Off() {
				act(t, random, l, &m, half)
			}
			d.Crash(kept(random, d))
			l = survive(t, random, d)
			notes := l.Notes()
			switch {
			case m.next != nil && bytes.Equal(l.Base(), m.next) && len(notes) == 0:
				switched++
				m = model{base: m.next}
			case !bytes.Equal(l.Base(), m.base) || len(notes) < m.sure || len(notes) > len(m.notes) || !slices.EqualFunc(notes, m.notes[:len(notes)], bytes.Equal):
				t.Fatalf("%x %x, not %x %x, %d", l.Base(), notes, m.base, m.notes, m.sure)
			default:
				if len(notes) < len(m.notes) {
					lost++
				} else if len(notes) > m.sure {
					all++
				}
				if m.next != nil {
					torn++
				}
				m = model{base: m.base, notes: notes, sure: len(notes)}
			}
			if l.Sure() != len(notes) {
				t.Fatal(l.Sure(), len(notes))
			}
		}
	}
	if lost < 1000 || switched < 100 || torn < 1000 || all < 100 {
		t.Error("seldom tested:", lost, switched, torn, all)
	}
}

// act asks a log for something, and has the model know what came of it.
func act(t *testing.T, random *rand.Rand, l *wal.Log, m *model, half int) {
	t.Helper()
	switch random.IntN(5) {
	case 0:
		if l.Sync() == api.OK {
			m.sure = len(m.notes)
		}
	case 1:
		base := some(random, 1+random.IntN(62*half-4))
		if l.Switch(base) == api.OK {
			*m = model{base: base}
		} else if m.next == nil {
			m.next = base
		}
	default:
		note := some(random, []int{random.IntN(10), random.IntN(200)}[random.IntN(2)])
		if l.Append(note) == api.OK {
			m.notes = append(m.notes, note)
		}
	}
}

// survive is the log that is opened on d, though the power may be lost then, too.
func survive(t *testing.T, random *rand.Rand, d *disk.Disk) *wal.Log {
	t.Helper()
	for {
		d.Stop([]int{-1, random.IntN(6)}[random.IntN(2)])
		l, e := wal.Open(d)
		if e == api.ErrOff {
			d.Crash(kept(random, d))
			continue
		}
		if e != api.OK {
			t.Fatal(e)
		}
		if d.Off() {
			d.Crash(kept(random, d))
			is(t, reopened(t, d), l.Generation(), l.Sure(), l.Room(), l.Base(), l.Notes()...)
			continue
		}
		// Opening it again has the same result.
		d.Stop(-1)
		is(t, reopened(t, d), l.Generation(), l.Sure(), l.Room(), l.Base(), l.Notes()...)
		return l
	}
}

// P27.4, R8: bits of a record that were changed.
func TestChangedBits(t *testing.T) {
	random := rand.New(rand.NewPCG(27, 8))
	for range 3000 {
		var l [][]byte
		for range 5 {
			l = append(l, some(random, random.IntN(150)))
		}
		d := opened(t, 2+2*20)
		log := begun(t, d, l[0])
		appends(t, log, l[1:]...)
		image := d.Image()
		which := random.IntN(5)
		at, _ := region(d.Len(), 1)
		for _, b := range l[:which] {
			at += len(sealed(b))
		}
		size := len(l[which]) + 4
		// The bits are those of the sealed bytes, without what is between the pieces.
		bit, pattern := random.IntN(8*size), random.Uint32()|1
		for i := range 32 {
			if k := bit + i; pattern>>i&1 > 0 && k < 8*size {
				image[64*(at+k/8/62)+k/8%62] ^= 1 << (k % 8)
			}
		}
		d = of(t, image)
		got, e := wal.Open(d)
		if which == 0 {
			if got != nil || e != api.ErrLog {
				t.Fatal(got, e)
			}
			continue
		}
		first, end := region(d.Len(), 1)
		if e != api.OK {
			t.Fatal(e)
		}
		is(t, got, 1, which-1, end-at, l[0], l[1:which]...)
		if !bytes.Equal(d.Image()[64*at:], make([]byte, 64*(d.Len()-at))) || at < first {
			t.Fatal("what does not belong to the log is there")
		}
	}
}
