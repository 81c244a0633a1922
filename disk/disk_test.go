package disk_test

import (
	"bytes"
	"math/rand/v2"
	"slices"
	"testing"

	"copse/api"
	"copse/disk"
)

const (
	least = -1 << 63
	most  = 1<<63 - 1
)

// fill is a sector full of c.
func fill(c byte) []byte {
	return bytes.Repeat([]byte{c}, 64)
}

// count is a sector of different bytes, none of them 0.
func count(from byte) []byte {
	b := make([]byte, 64)
	for i := range b {
		b[i] = from + byte(i)
	}
	return b
}

func some(random *rand.Rand, n int) []byte {
	b := make([]byte, n)
	for i := range b {
		b[i] = byte(random.Uint32())
	}
	return b
}

func opened(t *testing.T, sectors int) *disk.Disk {
	t.Helper()
	d, e := disk.New(sectors)
	if d == nil || e != api.OK {
		t.Fatal(sectors, d, e)
	}
	return d
}

func write(t *testing.T, d *disk.Disk, i int, b []byte) {
	t.Helper()
	if e := d.Write(i, b); e != api.OK {
		t.Fatal("write", i, e)
	}
}

func flush(t *testing.T, d *disk.Disk) {
	t.Helper()
	if e := d.Flush(); e != api.OK {
		t.Fatal("flush", e)
	}
}

// holds fails if what Image and Read tell of d is not what want has, sector by sector, or the power is off.
func holds(t *testing.T, d *disk.Disk, want ...[]byte) {
	t.Helper()
	if got := d.Image(); !bytes.Equal(got, slices.Concat(want...)) {
		t.Errorf("%x, not %x", got, want)
	}
	if d.Len() != len(want) || d.Off() {
		t.Error(d.Len(), d.Off())
	}
	for i, s := range want {
		if got, e := d.Read(i); !bytes.Equal(got, s) || e != api.OK {
			t.Errorf("%d: %x, %d, not %x", i, got, e, s)
		}
	}
}

// waits fails if other sectors are waiting.
func waits(t *testing.T, d *disk.Disk, want ...int) {
	t.Helper()
	if got := d.Waits(); !slices.Equal(got, want) {
		t.Error(got, want)
	}
}

// off fails if the power is on, or something is done without it, whatever the arguments are.
func off(t *testing.T, d *disk.Disk) {
	t.Helper()
	if !d.Off() {
		t.Error("on")
	}
	if e := d.Flush(); e != api.ErrOff {
		t.Error(e)
	}
	for _, i := range []int{0, 1, d.Len() - 1, d.Len(), -1, least, most} {
		if b, e := d.Read(i); b != nil || e != api.ErrOff {
			t.Error(i, b, e)
		}
		for _, b := range [][]byte{fill(0x55), fill(0x55)[:63], append(fill(0x55), 1), nil} {
			if e := d.Write(i, b); e != api.ErrOff {
				t.Error(i, len(b), e)
			}
		}
	}
}

// P25.1
func TestNew(t *testing.T) {
	for n := 1; n <= 4096; n++ {
		d, e := disk.New(n)
		if d == nil || e != api.OK || d.Len() != n || d.Off() || len(d.Waits()) > 0 {
			t.Fatal(n, d, e)
		}
		if n < 20 || n > 4094 || n%500 == 0 {
			holds(t, d, slices.Repeat([][]byte{fill(0)}, n)...)
		}
	}
	for _, n := range []int{0, -1, -64, 4097, 4098, 8192, 1 << 32, 1<<32 + 1, 1 << 58, 1<<58 + 1, least, least + 1, most} {
		if d, e := disk.New(n); d != nil || e != api.ErrArg {
			t.Error(n, d, e)
		}
	}
}

// P25.1
func TestOf(t *testing.T) {
	random := rand.New(rand.NewPCG(25, 1))
	all := some(random, 4096*64)
	for _, n := range []int{1, 2, 3, 5, 64, 1000, 4095, 4096} {
		image := all[:n*64]
		d, e := disk.Of(image)
		if d == nil || e != api.OK {
			t.Fatal(n, d, e)
		}
		sectors := slices.Collect(slices.Chunk(image, 64))
		holds(t, d, sectors...)
		waits(t, d)
		// What a disk begins with is safe.
		write(t, d, n-1, fill(7))
		d.Crash(nil)
		holds(t, d, sectors...)
	}
	for _, n := range []int{0, 1, 2, 63, 65, 127, 129, 64*64 - 1, 4096*64 - 1, 4096*64 + 1, 4097 * 64, 4098 * 64, 8192 * 64, 4097*64 - 1} {
		if d, e := disk.Of(make([]byte, n)); d != nil || e != api.ErrArg {
			t.Error(n, d, e)
		}
	}
	if d, e := disk.Of(nil); d != nil || e != api.ErrArg {
		t.Error(d, e)
	}
}

// P25.2, P25.3
func TestWriteReadFlush(t *testing.T) {
	d := opened(t, 4)
	write(t, d, 2, count(1))
	holds(t, d, fill(0), fill(0), count(1), fill(0))
	waits(t, d, 2)
	write(t, d, 2, count(9))
	write(t, d, 0, fill(4))
	holds(t, d, fill(4), fill(0), count(9), fill(0))
	waits(t, d, 0, 2)
	flush(t, d)
	holds(t, d, fill(4), fill(0), count(9), fill(0))
	waits(t, d)
	// Over safe bytes, with the same ones, and with zeros.
	write(t, d, 3, fill(0))
	write(t, d, 2, count(9))
	write(t, d, 0, fill(0))
	holds(t, d, fill(0), fill(0), count(9), fill(0))
	waits(t, d, 0, 2, 3)
	flush(t, d)
	flush(t, d)
	holds(t, d, fill(0), fill(0), count(9), fill(0))
	waits(t, d)
	d.Crash([]api.Kept{{Sector: 0, Bytes: 0}, {Sector: 2, Bytes: 3}})
	holds(t, d, fill(0), fill(0), count(9), fill(0))
}

// P25.2, R2: what is wrong changes nothing.
func TestWrongSectors(t *testing.T) {
	for _, n := range []int{1, 2, 7} {
		d := opened(t, n)
		write(t, d, n-1, count(3))
		before := d.Image()
		for _, i := range []int{n, n + 1, 2 * n, -1, -n, 64 * n, 4096, 1 << 32, 1 << 58, least, most} {
			for _, b := range [][]byte{fill(1), fill(1)[:63], nil} {
				if e := d.Write(i, b); e != api.ErrArg {
					t.Error(n, i, len(b), e)
				}
			}
			if b, e := d.Read(i); b != nil || e != api.ErrArg {
				t.Error(n, i, b, e)
			}
		}
		for _, size := range []int{0, 1, 32, 62, 63, 65, 66, 128, 1000} {
			for i := range n {
				if e := d.Write(i, bytes.Repeat([]byte{1}, size)); e != api.ErrArg {
					t.Error(n, i, size, e)
				}
			}
		}
		if !bytes.Equal(d.Image(), before) {
			t.Error(d.Image())
		}
		waits(t, d, n-1)
	}
}

// P25.2: only calls of Write and Flush that succeed are counted, and the power is lost with the last one.
func TestStop(t *testing.T) {
	for n := range 30 {
		d := opened(t, 3)
		write(t, d, 0, fill(8))
		d.Stop(n)
		for k := range n {
			if d.Off() {
				t.Fatal(n, k)
			}
			d.Write(3, fill(1))
			d.Write(-1, fill(1))
			d.Write(0, fill(1)[1:])
			d.Read(0)
			d.Read(3)
			d.Len()
			d.Waits()
			d.Image()
			if k%3 == 2 {
				flush(t, d)
			} else {
				write(t, d, k%2, fill(byte(k+1)))
			}
		}
		off(t, d)
		d.Crash(nil)
		if d.Off() {
			t.Error(n)
		}
	}
}

// P25.2: a flush without anything waiting, and a write of the same bytes, are counted, too.
func TestStopCountsAll(t *testing.T) {
	d := opened(t, 2)
	d.Stop(3)
	flush(t, d)
	flush(t, d)
	if d.Off() {
		t.Error("off")
	}
	flush(t, d)
	off(t, d)
	d.Crash(nil)
	d.Stop(3)
	for range 3 {
		write(t, d, 1, fill(0))
	}
	off(t, d)
}

// P25.2: what was done by the last calls before has been done.
func TestStopAfterFlush(t *testing.T) {
	d := opened(t, 2)
	d.Stop(2)
	write(t, d, 1, count(5))
	flush(t, d)
	off(t, d)
	waits(t, d)
	d.Crash(nil)
	holds(t, d, fill(0), count(5))
	d.Stop(1)
	write(t, d, 0, count(7))
	off(t, d)
	waits(t, d, 0)
	if !bytes.Equal(d.Image(), slices.Concat(count(7), count(5))) {
		t.Error(d.Image())
	}
	d.Crash([]api.Kept{{Sector: 0, Bytes: 64}})
	holds(t, d, count(7), count(5))
}

// P25.2: a later Stop replaces an earlier one.
func TestStopAgain(t *testing.T) {
	for _, c := range []struct{ first, calls, second, left int }{
		{5, 2, 1, 1}, {5, 2, 4, 4}, {1, 0, 3, 3}, {3, 2, 3, 3}, {5, 1, 0, 0}, {7, 7 - 1, 20, 20}, {-1, 9, 2, 2}, {least, 3, 1, 1}, {most, 3, 1, 1},
	} {
		d := opened(t, 1)
		d.Stop(c.first)
		for range c.calls {
			write(t, d, 0, fill(1))
		}
		d.Stop(c.second)
		for range c.left {
			write(t, d, 0, fill(2))
		}
		off(t, d)
	}
	// A negative one lets the power last.
	for _, n := range []int{-1, -2, -64, least, least + 1, most, 1 << 40} {
		d := opened(t, 1)
		d.Stop(2)
		write(t, d, 0, fill(1))
		d.Stop(n)
		for range 300 {
			write(t, d, 0, fill(2))
			flush(t, d)
		}
		if d.Off() {
			t.Error(n)
		}
	}
	// Without any, it lasts, too.
	d := opened(t, 1)
	for range 5000 {
		write(t, d, 0, fill(2))
		flush(t, d)
	}
}

// P25.2: while the power is off, Stop has no effect.
func TestStopWhileOff(t *testing.T) {
	for _, n := range []int{0, 1, 2, 100, -1, -2, least, most} {
		d := opened(t, 2)
		write(t, d, 1, count(1))
		d.Stop(0)
		off(t, d)
		d.Stop(n)
		off(t, d)
		d.Stop(n)
		d.Crash([]api.Kept{{Sector: 1, Bytes: 5}})
		holds(t, d, fill(0), append(count(1)[:5], make([]byte, 59)...))
		for range 300 {
			write(t, d, 0, fill(2))
			flush(t, d)
		}
		if d.Off() {
			t.Error(n)
		}
	}
}

// P25.3: no Stop is in effect after a crash, whether the power was lost or not.
func TestCrashEndsStop(t *testing.T) {
	for _, n := range []int{0, 1, 2, 5} {
		for calls := range n + 1 {
			d := opened(t, 1)
			d.Stop(n)
			for range calls {
				write(t, d, 0, fill(1))
			}
			d.Crash(nil)
			for range 20 {
				write(t, d, 0, fill(2))
				flush(t, d)
			}
			d.Stop(1)
			write(t, d, 0, fill(2))
			off(t, d)
		}
	}
}

// P25.2, P25.3: while the power is off nothing is changed, and all the same it is told.
func TestOff(t *testing.T) {
	d := opened(t, 3)
	write(t, d, 0, count(1))
	write(t, d, 1, count(2))
	flush(t, d)
	write(t, d, 2, count(3))
	write(t, d, 0, count(4))
	d.Stop(0)
	for range 3 {
		off(t, d)
		waits(t, d, 0, 2)
		if d.Len() != 3 || !bytes.Equal(d.Image(), slices.Concat(count(4), count(2), count(3))) {
			t.Error(d.Len(), d.Image())
		}
	}
	d.Crash([]api.Kept{{Sector: 0, Bytes: 64}, {Sector: 2, Bytes: 64}})
	holds(t, d, count(4), count(2), count(3))
}

// P25.3: each number of bytes that may be kept, over zeros and over others.
func TestCrashKeeps(t *testing.T) {
	for _, old := range [][]byte{fill(0), count(100)} {
		for _, n := range []int{least, least + 1, -65, -64, -2, -1, 0, 1, 2, 3, 31, 32, 62, 63, 64, 65, 66, 128, 256, 1 << 32, most} {
			d := opened(t, 3)
			write(t, d, 1, old)
			flush(t, d)
			write(t, d, 1, fill(255))
			write(t, d, 1, count(1))
			d.Crash([]api.Kept{{Sector: 1, Bytes: n}})
			kept := min(max(n, 0), 64)
			want := slices.Concat(count(1)[:kept], old[kept:])
			holds(t, d, fill(0), want, fill(0))
			waits(t, d)
			// It is safe then.
			d.Crash([]api.Kept{{Sector: 1, Bytes: 64}})
			holds(t, d, fill(0), want, fill(0))
		}
		for n := range 65 {
			d, _ := disk.Of(old)
			write(t, d, 0, count(50))
			d.Crash([]api.Kept{{Sector: 0, Bytes: n}})
			holds(t, d, slices.Concat(count(50)[:n], old[n:]))
		}
	}
}

// P25.3: the first element that names a sector counts; one that is not waiting, or not there, does nothing.
func TestCrashList(t *testing.T) {
	part := func(n int) []byte { return append(count(1)[:n], make([]byte, 64-n)...) }
	for i, c := range []struct {
		l    []api.Kept
		want [][]byte
	}{
		{nil, [][]byte{part(0), part(0), fill(9)}},
		{[]api.Kept{}, [][]byte{part(0), part(0), fill(9)}},
		{[]api.Kept{{Sector: 0, Bytes: 10}, {Sector: 0, Bytes: 64}}, [][]byte{part(10), part(0), fill(9)}},
		{[]api.Kept{{Sector: 0, Bytes: 64}, {Sector: 0, Bytes: 10}}, [][]byte{part(64), part(0), fill(9)}},
		{[]api.Kept{{Sector: 0, Bytes: 0}, {Sector: 0, Bytes: 64}}, [][]byte{part(0), part(0), fill(9)}},
		{[]api.Kept{{Sector: 0, Bytes: -5}, {Sector: 1, Bytes: 3}, {Sector: 0, Bytes: 64}, {Sector: 1, Bytes: 4}}, [][]byte{part(0), part(3), fill(9)}},
		{[]api.Kept{{Sector: 1, Bytes: 7}, {Sector: 0, Bytes: 6}}, [][]byte{part(6), part(7), fill(9)}},
		{[]api.Kept{{Sector: 2, Bytes: 64}, {Sector: 1, Bytes: 64}, {Sector: 2, Bytes: 1}}, [][]byte{part(0), part(64), fill(9)}},
		{[]api.Kept{{Sector: 3, Bytes: 64}, {Sector: -1, Bytes: 64}, {Sector: least, Bytes: 64}, {Sector: most, Bytes: 64}, {Sector: 1, Bytes: 2}}, [][]byte{part(0), part(2), fill(9)}},
	} {
		for _, stopped := range []bool{false, true} {
			d := opened(t, 3)
			write(t, d, 2, fill(9))
			flush(t, d)
			write(t, d, 0, count(1))
			write(t, d, 1, count(1))
			if stopped {
				d.Stop(0)
			}
			d.Crash(c.l)
			holds(t, d, c.want...)
			waits(t, d)
			if t.Failed() {
				t.Fatal(i, stopped)
			}
		}
	}
}

// P25.3: the document's example.
func TestExample(t *testing.T) {
	d := opened(t, 1)
	write(t, d, 0, fill(7))
	d.Crash([]api.Kept{{Sector: 0, Bytes: 3}})
	holds(t, d, append([]byte{7, 7, 7}, make([]byte, 61)...))
}

// P25.3: the sectors are in ascending order, however they were written.
func TestWaits(t *testing.T) {
	random := rand.New(rand.NewPCG(25, 2))
	for range 50 {
		d := opened(t, 4096)
		var want []int
		for range random.IntN(200) {
			i := random.IntN(4096)
			write(t, d, i, fill(1))
			want = append(want, i)
		}
		slices.Sort(want)
		waits(t, d, slices.Compact(want)...)
	}
	d := opened(t, 4096)
	var all []int
	for i := range 4096 {
		write(t, d, 4095-i, fill(1))
		all = append(all, i)
	}
	waits(t, d, all...)
	flush(t, d)
	waits(t, d)
}

// P25.4: whatever is done after a flush without another one, and whatever is kept, what is not written stays, and a crash directly after it changes nothing.
func TestFlushed(t *testing.T) {
	random := rand.New(rand.NewPCG(25, 3))
	for range 300 {
		d := opened(t, 5)
		for range random.IntN(12) {
			write(t, d, random.IntN(5), some(random, 64))
		}
		flush(t, d)
		safe := slices.Collect(slices.Chunk(d.Image(), 64))
		d.Crash(kept(random, 5))
		holds(t, d, safe...)
		written := map[int]bool{}
		for range random.IntN(4) {
			i := random.IntN(5)
			written[i] = true
			write(t, d, i, some(random, 64))
		}
		d.Crash(kept(random, 5))
		for i, s := range safe {
			if b, e := d.Read(i); e != api.OK || !written[i] && !bytes.Equal(b, s) {
				t.Error(i, b, e, s)
			}
		}
	}
}

// kept is a random list of what is kept of a disk with so many sectors.
func kept(random *rand.Rand, sectors int) []api.Kept {
	var l []api.Kept
	for range random.IntN(2 * sectors) {
		l = append(l, api.Kept{Sector: random.IntN(sectors+2) - 1, Bytes: random.IntN(80) - 8})
	}
	return l
}

// model is a disk by the words: the safe bytes of each sector, those that wait (nil: none), and the power.
type model struct {
	safe, waiting [][]byte
	off, stopping bool
	calls         int
}

func (m *model) write(i int, b []byte) api.Errno {
	if m.off {
		return api.ErrOff
	}
	if i < 0 || i >= len(m.safe) || len(b) != 64 {
		return api.ErrArg
	}
	m.waiting[i] = slices.Clone(b)
	m.called()
	return api.OK
}

func (m *model) called() {
	m.calls--
	m.off = m.stopping && m.calls == 0
}

func (m *model) latest(i int) []byte {
	if m.waiting[i] != nil {
		return m.waiting[i]
	}
	return m.safe[i]
}

func (m *model) flush() api.Errno {
	if m.off {
		return api.ErrOff
	}
	for i := range m.safe {
		m.safe[i], m.waiting[i] = m.latest(i), nil
	}
	m.called()
	return api.OK
}

func (m *model) stop(n int) {
	if m.off {
		return
	}
	m.stopping, m.calls = n >= 0, n
	m.off = n == 0
}

func (m *model) crash(l []api.Kept) {
	for i, b := range m.waiting {
		at := slices.IndexFunc(l, func(k api.Kept) bool { return k.Sector == i })
		if b != nil && at >= 0 {
			n := min(max(l[at].Bytes, 0), 64)
			m.safe[i] = slices.Concat(b[:n], m.safe[i][n:])
		}
		m.waiting[i] = nil
	}
	m.off, m.stopping = false, false
}

// same fails if d is not as m is.
func (m *model) same(t *testing.T, d *disk.Disk) {
	t.Helper()
	var image []byte
	var waiting []int
	for i := range m.safe {
		image = append(image, m.latest(i)...)
		if m.waiting[i] != nil {
			waiting = append(waiting, i)
		}
	}
	if !bytes.Equal(d.Image(), image) || !slices.Equal(d.Waits(), waiting) || d.Off() != m.off || d.Len() != len(m.safe) {
		t.Fatal(d.Image(), image, d.Waits(), waiting, d.Off(), m.off, d.Len())
	}
}

// P25.1 to P25.4, R4
func TestRandom(t *testing.T) {
	random := rand.New(rand.NewPCG(25, 4))
	for range 400 {
		sectors := 1 + random.IntN(6)
		image := some(random, 64*sectors)
		d, e := disk.Of(image)
		if e != api.OK {
			t.Fatal(e)
		}
		m := &model{safe: slices.Collect(slices.Chunk(image, 64)), waiting: make([][]byte, sectors)}
		for range random.IntN(80) {
			i := random.IntN(sectors+2) - 1
			switch random.IntN(8) {
			case 0, 1, 2:
				b := some(random, 64+random.IntN(10)/9)
				if got, want := d.Write(i, b), m.write(i, b); got != want {
					t.Fatal(got, want)
				}
			case 3, 4:
				b, e := d.Read(i)
				switch {
				case m.off && (b != nil || e != api.ErrOff):
					t.Fatal(b, e)
				case !m.off && (i < 0 || i >= sectors) && (b != nil || e != api.ErrArg):
					t.Fatal(b, e)
				case !m.off && i >= 0 && i < sectors && (e != api.OK || !bytes.Equal(b, m.latest(i))):
					t.Fatal(b, e, m.latest(i))
				}
			case 5:
				if got, want := d.Flush(), m.flush(); got != want {
					t.Fatal(got, want)
				}
			case 6:
				n := random.IntN(9) - 1
				d.Stop(n)
				m.stop(n)
			case 7:
				l := kept(random, sectors)
				d.Crash(l)
				m.crash(l)
			}
			m.same(t, d)
		}
	}
}

// P25.3
func TestNil(t *testing.T) {
	var d *disk.Disk
	for _, n := range []int{-1, 0, 1, least, most} {
		d.Stop(n)
		d.Crash([]api.Kept{{Sector: n, Bytes: 64}})
		d.Crash(nil)
		if b, e := d.Read(n); b != nil || e != api.ErrShut {
			t.Error(n, b, e)
		}
		if e := d.Write(n, fill(1)); e != api.ErrShut {
			t.Error(n, e)
		}
		if e := d.Write(n, nil); e != api.ErrShut {
			t.Error(n, e)
		}
		if e := d.Flush(); e != api.ErrShut {
			t.Error(e)
		}
		if !d.Off() || d.Len() != 0 || len(d.Waits()) > 0 || len(d.Image()) > 0 {
			t.Error(d.Off(), d.Len(), d.Waits(), d.Image())
		}
	}
}

// spoil overwrites b, and the room behind it.
func spoil(b []byte) {
	b = b[:cap(b)]
	for i := range b {
		b[i] = 0xee
	}
}

// P25.1 to P25.3, R3: what goes in, and what comes out, is memory of its own.
func TestMemory(t *testing.T) {
	whole := slices.Concat(count(1), count(2), count(3))
	image := whole[:128]
	d, _ := disk.Of(image)
	b := slices.Concat(count(7), []byte{1, 2, 3})
	write(t, d, 1, b[:64])
	if !bytes.Equal(b, slices.Concat(count(7), []byte{1, 2, 3})) || !bytes.Equal(whole, slices.Concat(count(1), count(2), count(3))) {
		t.Error(b, whole)
	}
	spoil(b)
	spoil(image)
	holds(t, d, count(1), count(7))
	for i := range 2 {
		s, _ := d.Read(i)
		spoil(s)
	}
	spoil(d.Image())
	holds(t, d, count(1), count(7))
	l := d.Waits()
	l[0] = 0
	waits(t, d, 1)

	// Answers stay as they are, and what was flushed is nobody else's.
	s, _ := d.Read(1)
	old := d.Image()
	l = d.Waits()
	flush(t, d)
	write(t, d, 1, count(50))
	write(t, d, 0, count(60))
	flush(t, d)
	if !bytes.Equal(s, count(7)) || !bytes.Equal(old, slices.Concat(count(1), count(7))) || !slices.Equal(l, []int{1}) {
		t.Error(s, old, l)
	}
	spoil(s)
	spoil(old)
	holds(t, d, count(60), count(50))

	kept := []api.Kept{{Sector: 0, Bytes: 99}, {Sector: 0, Bytes: -1}, {Sector: 7, Bytes: 3}, {Sector: 1, Bytes: 1}}
	write(t, d, 0, count(70))
	d.Crash(kept[:2])
	if !slices.Equal(kept, []api.Kept{{Sector: 0, Bytes: 99}, {Sector: 0, Bytes: -1}, {Sector: 7, Bytes: 3}, {Sector: 1, Bytes: 1}}) {
		t.Error(kept)
	}
	holds(t, d, count(70), count(50))
}

// R4: two disks have nothing to do with each other.
func TestTwo(t *testing.T) {
	a, b := opened(t, 2), opened(t, 2)
	write(t, a, 0, fill(1))
	write(t, b, 1, fill(2))
	a.Stop(0)
	flush(t, b)
	holds(t, b, fill(0), fill(2))
	off(t, a)
	waits(t, a, 0)
	b.Crash(nil)
	off(t, a)
	a.Crash(nil)
	holds(t, a, fill(0), fill(0))
	holds(t, b, fill(0), fill(2))
}
