package vdev

import (
	"math"
	"slices"
	"testing"

	"aquifer/api"
)

// full is a sector of which all bytes are that.
func full(x byte) api.Sector {
	var s api.Sector
	for i := range s {
		s[i] = x
	}
	return s
}

var zeros api.Sector

// reads: are the first sectors read as these?
func reads(t *testing.T, d *Dev, want ...byte) {
	t.Helper()
	for i, x := range want {
		if s, e := d.Read(i); s != full(x) || e != api.OK {
			t.Errorf("sector %v is read as %v %v, not as %v", i, s, e, x)
		}
	}
}

// stables: are these the stable ones of the first sectors?
func stables(t *testing.T, d *Dev, want ...byte) {
	t.Helper()
	for i, x := range want {
		if s := d.Stable(i); s != full(x) {
			t.Errorf("stable of sector %v is %v, not %v", i, s, x)
		}
	}
}

// pending: are so many writes pending?
func pending(t *testing.T, d *Dev, want int) {
	t.Helper()
	if n := d.Pending(); n != want {
		t.Errorf("%v writes are pending, not %v", n, want)
	}
}

// writes writes sectors, which must be done.
func writes(t *testing.T, d *Dev, l ...[2]int) {
	t.Helper()
	for _, w := range l {
		if e := d.Write(w[0], full(byte(w[1]))); e != api.OK {
			t.Errorf("a write to sector %v: %v", w[0], e)
		}
	}
}

// flush makes all writes stable, which must be done.
func flush(t *testing.T, d *Dev) {
	t.Helper()
	if e := d.Flush(); e != api.OK {
		t.Errorf("a flush: %v", e)
	}
}

// outside are numbers of no sector of a device of so many.
func outside(sectors int) []int {
	return []int{-1, -2, -sectors, sectors, sectors + 1, sectors + 1024, 1024, 4096, math.MaxInt, math.MinInt, math.MinInt + 1, 1 << 32, -1 << 32}
}

// The section Errors: their numbers.
func TestErrors(t *testing.T) {
	d := New(1)
	_, e := d.Read(1)
	if e != 41 {
		t.Errorf("no such sector: %v", e)
	}
	d.Break(0)
	if e := d.Flush(); e != 42 {
		t.Errorf("the power is gone: %v", e)
	}
}

// P4.1: so many sectors, none below 0, at most 1024.
func TestSizes(t *testing.T) {
	for _, c := range []struct{ sectors, want int }{
		{0, 0}, {1, 1}, {2, 2}, {64, 64}, {1023, 1023}, {1024, 1024},
		{1025, 1024}, {4096, 1024}, {1 << 32, 1024}, {math.MaxInt, 1024},
		{-1, 0}, {-2, 0}, {-1024, 0}, {-1 << 32, 0}, {math.MinInt, 0},
	} {
		d := New(c.sectors)
		if d.Len() != c.want {
			t.Errorf("New of %v has %v sectors, not %v", c.sectors, d.Len(), c.want)
		}
		for _, i := range outside(c.want) {
			if e := d.Rot(i, full(1)); e != api.ErrSector {
				t.Errorf("New of %v: Rot of %v: %v", c.sectors, i, e)
			}
		}
	}
}

// P4.1: a new device is of zeros, stable, without writes, with its power, and was asked nothing.
func TestNewIsOfZeros(t *testing.T) {
	for _, sectors := range []int{0, 1, 3, 1024} {
		d := New(sectors)
		if d.Pending() != 0 || d.Dead() || d.Ops() != 0 {
			t.Errorf("New of %v: %v pending, %v, %v ops", sectors, d.Pending(), d.Dead(), d.Ops())
		}
		for i := range sectors {
			if s, e := d.Read(i); s != zeros || e != api.OK || d.Stable(i) != zeros {
				t.Errorf("New of %v: sector %v is %v %v", sectors, i, s, e)
			}
		}
		flush(t, d)
	}
}

// P4.1: Len is as it was, whatever happens.
func TestLenStays(t *testing.T) {
	d := New(3)
	writes(t, d, [2]int{2, 1}, [2]int{2, 2})
	d.Write(3, full(1))
	d.Rot(3, full(1))
	d.Break(0)
	d.Flush()
	if d.Len() != 3 {
		t.Errorf("behind all: %v", d.Len())
	}
	d.Crash(true, true, true, true)
	if d.Len() != 3 {
		t.Errorf("behind the crash: %v", d.Len())
	}
}

// P4.1: of sectors that aren't there zeros are stable.
func TestStableOfOthers(t *testing.T) {
	d := New(5)
	for i := range 5 {
		d.Rot(i, full(9))
	}
	for _, i := range outside(5) {
		if s := d.Stable(i); s != zeros {
			t.Errorf("stable of %v: %v", i, s)
		}
	}
	stables(t, d, 9, 9, 9, 9, 9)
}

// P4.1: Reads, Writes and Flushes are counted, whatever they answer, and nothing else is.
func TestOps(t *testing.T) {
	d := New(2)
	want := 0
	counted := func(what string, by int) {
		t.Helper()
		want += by
		if d.Ops() != want {
			t.Errorf("behind %s: %v ops, not %v", what, d.Ops(), want)
			want = d.Ops()
		}
	}
	all := func(what string) {
		d.Read(1)
		counted("a read "+what, 1)
		d.Read(2)
		counted("a read of no sector "+what, 1)
		d.Write(1, full(1))
		counted("a write "+what, 1)
		d.Write(-1, full(1))
		counted("a write to no sector "+what, 1)
		d.Flush()
		counted("a flush "+what, 1)
	}
	all("with power")
	d.Len()
	d.Stable(0)
	d.Stable(7)
	d.Pending()
	d.Ops()
	d.Dead()
	d.Rot(0, full(2))
	d.Rot(2, full(2))
	d.Break(0)
	counted("what isn't counted", 0)
	all("without power")
	d.Crash(true, false)
	counted("a crash", 0)
	all("behind a crash")
}

// P4.1: the count of calls stays below 2^62.
func TestOpsStayBelow(t *testing.T) {
	const most = 1<<62 - 1
	for _, call := range []func(d *Dev){
		func(d *Dev) { d.Read(0) },
		func(d *Dev) { d.Read(1) },
		func(d *Dev) { d.Write(0, full(1)) },
		func(d *Dev) { d.Write(1, full(1)) },
		func(d *Dev) { d.Flush() },
	} {
		d := New(1)
		d.ops = most - 2 // so many calls can't be made here
		for _, want := range []int{most - 1, most, most, most} {
			call(d)
			if d.Ops() != want {
				t.Errorf("%v ops, not %v", d.Ops(), want)
			}
		}
	}
}

// P4.2, P4.4: of no sector nothing is read, written or rotten, with power and without it: ErrSector comes first.
func TestNoSuchSector(t *testing.T) {
	for _, sectors := range []int{0, 1, 3, 1024} {
		for _, powered := range []bool{true, false} {
			d := New(sectors)
			if !powered {
				d.Break(0)
				d.Flush()
			}
			for _, i := range outside(sectors) {
				if s, e := d.Read(i); e != api.ErrSector || s != zeros {
					t.Errorf("Read of %v of %v: %v %v", i, sectors, s, e)
				}
				if e := d.Write(i, full(1)); e != api.ErrSector {
					t.Errorf("Write of %v of %v: %v", i, sectors, e)
				}
				if e := d.Rot(i, full(1)); e != api.ErrSector {
					t.Errorf("Rot of %v of %v: %v", i, sectors, e)
				}
			}
			pending(t, d, 0)
			d.Crash()
			for i := range sectors {
				if s, e := d.Read(i); s != zeros || e != api.OK {
					t.Errorf("sector %v of %v changed: %v %v", i, sectors, s, e)
				}
			}
		}
	}
}

// P4.2: the last pending write is read, and nothing of it is stable until a Flush.
func TestWriteAndFlush(t *testing.T) {
	d := New(4)
	writes(t, d, [2]int{0, 1}, [2]int{3, 2})
	reads(t, d, 1, 0, 0, 2)
	stables(t, d, 0, 0, 0, 0)
	pending(t, d, 2)
	writes(t, d, [2]int{0, 3}, [2]int{1, 4}, [2]int{0, 5})
	reads(t, d, 5, 4, 0, 2)
	stables(t, d, 0, 0, 0, 0)
	pending(t, d, 5)
	flush(t, d)
	reads(t, d, 5, 4, 0, 2)
	stables(t, d, 5, 4, 0, 2)
	pending(t, d, 0)
	writes(t, d, [2]int{0, 6}, [2]int{2, 7}, [2]int{0, 0})
	reads(t, d, 0, 4, 7, 2)
	stables(t, d, 5, 4, 0, 2)
	pending(t, d, 3)
	flush(t, d)
	flush(t, d)
	stables(t, d, 0, 4, 7, 2)
	pending(t, d, 0)
}

// P4.2: a write that changes nothing is pending, too.
func TestWriteOfTheSame(t *testing.T) {
	d := New(1)
	writes(t, d, [2]int{0, 0}, [2]int{0, 0})
	pending(t, d, 2)
	writes(t, d, [2]int{0, 1}, [2]int{0, 0})
	pending(t, d, 4)
	d.Crash(true, true, true, false)
	stables(t, d, 1)
}

// P4.2: all bytes of a sector are written, in each sector of a device.
func TestWholeSectors(t *testing.T) {
	d := New(1024)
	of := func(i int) api.Sector {
		var s api.Sector
		for j := range s {
			s[j] = byte(i*7 + i/256 + j*3)
		}
		return s
	}
	for i := range 1024 {
		if e := d.Write(i, of(i)); e != api.OK {
			t.Errorf("sector %v: %v", i, e)
		}
	}
	pending(t, d, 1024)
	for i := range 1024 {
		if s, e := d.Read(i); s != of(i) || e != api.OK || d.Stable(i) != zeros {
			t.Errorf("sector %v: %v %v", i, s, e)
		}
	}
	flush(t, d)
	for i := range 1024 {
		if s, e := d.Read(i); s != of(i) || e != api.OK || d.Stable(i) != of(i) {
			t.Errorf("sector %v behind the flush: %v %v", i, s, e)
		}
	}
}

// P4.2: without power nothing is read.
func TestReadWithoutPower(t *testing.T) {
	d := New(2)
	writes(t, d, [2]int{0, 1})
	flush(t, d)
	writes(t, d, [2]int{1, 2})
	d.Break(0)
	reads(t, d, 1, 2)
	d.Flush()
	for i := range 2 {
		if s, e := d.Read(i); e != api.ErrPower || s != zeros {
			t.Errorf("sector %v: %v %v", i, s, e)
		}
	}
	stables(t, d, 1, 0)
	pending(t, d, 1)
}

// P4.3: n more Writes and Flushes are done, in any mix; the next one isn't, and the power is gone.
func TestBreak(t *testing.T) {
	for n := range 7 {
		for mix := range 1 << (n + 1) {
			d := New(2)
			d.Break(n)
			stable, last, count := byte(0), byte(0), 0
			for i := range n {
				if d.Dead() {
					t.Fatalf("Break of %v: dead ahead of call %v", n, i)
				}
				if mix>>i&1 == 1 {
					flush(t, d)
					stable, count = last, 0
				} else {
					last = byte(i + 1)
					writes(t, d, [2]int{0, int(last)})
					count++
				}
			}
			reads(t, d, last)
			if d.Dead() {
				t.Fatalf("Break of %v: dead too early", n)
			}
			e := d.Flush
			if mix>>n&1 == 0 {
				e = func() api.Errno { return d.Write(0, full(99)) }
			}
			if got := e(); got != api.ErrPower || !d.Dead() {
				t.Errorf("Break of %v, mix %b: %v %v", n, mix, got, d.Dead())
			}
			stables(t, d, stable)
			pending(t, d, count)
			d.Crash(slices.Repeat([]bool{true}, n+1)...)
			reads(t, d, last)
		}
	}
}

// P4.3: what no Write or Flush is, and a Write to no sector, uses nothing of a Break up.
func TestBreakCountsWritesAndFlushesAlone(t *testing.T) {
	d := New(2)
	idle := func() {
		for range 5 {
			d.Read(0)
			d.Read(2)
			d.Write(2, full(1))
			d.Write(-1, full(1))
			d.Rot(1, full(8))
			d.Rot(2, full(8))
			d.Stable(0)
			d.Len()
			d.Pending()
			d.Ops()
			if d.Dead() {
				t.Error("dead too early")
			}
		}
	}
	d.Break(2)
	idle()
	writes(t, d, [2]int{0, 1})
	idle()
	flush(t, d)
	idle()
	reads(t, d, 1, 8)
	if e := d.Write(0, full(2)); e != api.ErrPower || !d.Dead() {
		t.Errorf("%v %v", e, d.Dead())
	}
	stables(t, d, 1, 8)
}

// P4.3: without power each Write to a sector that is there and each Flush answers ErrPower, whatever Break says, until a Crash.
func TestPowerIsGone(t *testing.T) {
	for _, n := range []int{math.MinInt, -1, 0, 1, 5, math.MaxInt} {
		d := New(2)
		writes(t, d, [2]int{0, 1}, [2]int{1, 2})
		d.Break(0)
		d.Flush()
		for range 3 {
			d.Break(n)
			for range 8 {
				if e := d.Write(0, full(3)); e != api.ErrPower {
					t.Errorf("Break of %v: a write: %v", n, e)
				}
				if e := d.Write(2, full(3)); e != api.ErrSector {
					t.Errorf("Break of %v: a write to no sector: %v", n, e)
				}
				if e := d.Flush(); e != api.ErrPower {
					t.Errorf("Break of %v: a flush: %v", n, e)
				}
				if _, e := d.Read(1); e != api.ErrPower || !d.Dead() {
					t.Errorf("Break of %v: a read: %v %v", n, e, d.Dead())
				}
			}
		}
		pending(t, d, 2)
		stables(t, d, 0, 0)
		d.Crash(false, true, true, true)
		if d.Dead() {
			t.Error("dead behind a crash")
		}
		reads(t, d, 0, 2)
	}
}

// P4.3: a Break below 0 refuses nothing; the last one alone counts.
func TestLastBreak(t *testing.T) {
	for _, c := range []struct {
		breaks []int
		done   int
	}{
		{nil, -1},
		{[]int{-1}, -1},
		{[]int{-2}, -1},
		{[]int{math.MinInt}, -1},
		{[]int{math.MaxInt}, -1},
		{[]int{0, -1}, -1},
		{[]int{3, math.MinInt}, -1},
		{[]int{0, 2}, 2},
		{[]int{5, 0}, 0},
		{[]int{1, 4, 2}, 2},
		{[]int{-1, 3}, 3},
		{[]int{0, -7, 1}, 1},
	} {
		d := New(1)
		for _, n := range c.breaks {
			d.Break(n)
		}
		done := 0
		for done < 50 && d.Write(0, full(1)) == api.OK {
			done++
		}
		if c.done >= 0 && done != c.done || c.done < 0 && done != 50 {
			t.Errorf("Breaks of %v: %v writes are done", c.breaks, done)
		}
	}
}

// P4.3: a Break counts from where it is said, and takes one that was partly used up back.
func TestBreakAmongWrites(t *testing.T) {
	d := New(1)
	d.Break(2)
	writes(t, d, [2]int{0, 1})
	d.Break(2)
	writes(t, d, [2]int{0, 2}, [2]int{0, 3})
	d.Break(-1)
	writes(t, d, [2]int{0, 4}, [2]int{0, 5}, [2]int{0, 6}, [2]int{0, 7})
	d.Break(0)
	if e := d.Write(0, full(8)); e != api.ErrPower {
		t.Errorf("a write: %v", e)
	}
	d.Crash(slices.Repeat([]bool{true}, 9)...)
	reads(t, d, 7)
}

// P4.3: behind a Crash no Break counts, said ahead of it, with power or without.
func TestCrashEndsABreak(t *testing.T) {
	for _, n := range []int{0, 1, 3} {
		for _, dead := range []bool{false, true} {
			d := New(1)
			if dead {
				d.Break(0)
				d.Flush()
			}
			d.Break(n)
			d.Crash()
			for i := range 20 {
				writes(t, d, [2]int{0, i})
				flush(t, d)
			}
			if d.Dead() {
				t.Errorf("Break of %v, dead %v: dead", n, dead)
			}
		}
	}
}

// P4.3: of the pending writes, in order, those are stable that are kept by their numbers, whatever is kept.
func TestCrash(t *testing.T) {
	list := [][2]int{{0, 1}, {1, 2}, {0, 3}, {2, 4}, {1, 5}, {0, 6}}
	for size := range len(list) + 4 {
		for mask := range 1 << size {
			for _, dead := range []bool{false, true} {
				d := New(4)
				writes(t, d, [2]int{0, 10}, [2]int{1, 11})
				flush(t, d)
				writes(t, d, list...)
				if dead {
					d.Break(0)
					d.Write(3, full(77))
				}
				want := []byte{10, 11, 0, 0}
				keep := make([]bool, size)
				for n := range keep {
					keep[n] = mask>>n&1 == 1
					if keep[n] && n < len(list) {
						want[list[n][0]] = byte(list[n][1])
					}
				}
				d.Crash(keep...)
				stables(t, d, want...)
				reads(t, d, want...)
				pending(t, d, 0)
				if t.Failed() {
					t.Fatalf("keep %v, dead %v", keep, dead)
				}
			}
		}
	}
}

// P4.3: the numbers of what is kept begin anew behind a Flush, and behind a Crash; what was gone doesn't come again.
func TestCrashBehindOthers(t *testing.T) {
	d := New(3)
	writes(t, d, [2]int{0, 1}, [2]int{1, 2})
	flush(t, d)
	writes(t, d, [2]int{0, 3}, [2]int{1, 4})
	d.Crash(false, true)
	reads(t, d, 1, 4, 0)
	d.Crash(true, true, true)
	reads(t, d, 1, 4, 0)
	writes(t, d, [2]int{2, 5}, [2]int{0, 6})
	d.Crash(true)
	reads(t, d, 1, 4, 5)
	flush(t, d)
	stables(t, d, 1, 4, 5)
}

// P4.3: the example of the chapter.
func TestExample(t *testing.T) {
	d := New(2)
	writes(t, d, [2]int{0, 1}, [2]int{1, 2})
	d.Crash(false, true)
	stables(t, d, 0, 2)
}

// P4.4: what rots is so at once, stable and in all pending writes of it, and in no other sector; later writes are as ever.
func TestRot(t *testing.T) {
	for mask := range 1 << 5 {
		d := New(3)
		writes(t, d, [2]int{0, 1}, [2]int{1, 2}, [2]int{2, 3})
		flush(t, d)
		writes(t, d, [2]int{1, 4}, [2]int{0, 5}, [2]int{1, 6})
		if e := d.Rot(1, full(9)); e != api.OK {
			t.Errorf("Rot: %v", e)
		}
		stables(t, d, 1, 9, 3)
		reads(t, d, 5, 9, 3)
		pending(t, d, 3)
		writes(t, d, [2]int{1, 7}, [2]int{2, 8})
		reads(t, d, 5, 7, 8)
		stables(t, d, 1, 9, 3)
		keep := make([]bool, 5)
		want := []byte{1, 9, 3}
		for n, w := range [][2]int{{1, 9}, {0, 5}, {1, 9}, {1, 7}, {2, 8}} {
			keep[n] = mask>>n&1 == 1
			if keep[n] {
				want[w[0]] = byte(w[1])
			}
		}
		d.Crash(keep...)
		stables(t, d, want...)
		reads(t, d, want...)
	}
}

// P4.4: a Flush doesn't bring back what was written ahead of the rot.
func TestFlushOfWhatRotted(t *testing.T) {
	d := New(2)
	writes(t, d, [2]int{0, 1}, [2]int{0, 2}, [2]int{1, 3})
	d.Rot(0, full(9))
	d.Rot(0, full(8))
	flush(t, d)
	stables(t, d, 8, 3)
	reads(t, d, 8, 3)
	d.Rot(1, zeros)
	stables(t, d, 8, 0)
	reads(t, d, 8, 0)
}

// P4.4: a sector rots without power, too, and the power isn't there for it; with power it stays.
func TestRotWithoutPower(t *testing.T) {
	d := New(2)
	writes(t, d, [2]int{0, 1})
	d.Rot(1, full(5))
	if d.Dead() {
		t.Error("dead of a rot")
	}
	d.Break(0)
	d.Flush()
	if e := d.Rot(0, full(9)); e != api.OK || !d.Dead() {
		t.Errorf("Rot: %v %v", e, d.Dead())
	}
	if e := d.Rot(2, full(9)); e != api.ErrSector {
		t.Errorf("Rot of no sector: %v", e)
	}
	stables(t, d, 9, 5)
	pending(t, d, 1)
	d.Crash(true)
	reads(t, d, 9, 5)
}

// Rules that hold everywhere: what is handed in isn't changed, spare room included, and not kept.
func TestWhatIsHandedIn(t *testing.T) {
	d := New(2)
	writes(t, d, [2]int{0, 1}, [2]int{1, 2})
	room := []bool{true, false, true, false}
	d.Crash(room[:2]...)
	if !slices.Equal(room, []bool{true, false, true, false}) {
		t.Errorf("Crash changed %v", room)
	}
	room[0], room[1] = false, true
	reads(t, d, 1, 0)
	writes(t, d, [2]int{0, 3}, [2]int{1, 4})
	d.Crash()
	reads(t, d, 1, 0)
}

// P2: what happens to a device happens to no other one.
func TestDevicesApart(t *testing.T) {
	a, b := New(2), New(2)
	writes(t, a, [2]int{0, 1})
	flush(t, a)
	writes(t, a, [2]int{1, 2})
	a.Rot(0, full(3))
	a.Break(0)
	a.Flush()
	if b.Dead() || b.Ops() != 0 || b.Pending() != 0 {
		t.Errorf("the other one: %v %v %v", b.Dead(), b.Ops(), b.Pending())
	}
	reads(t, b, 0, 0)
	writes(t, b, [2]int{1, 9})
	flush(t, b)
	b.Crash()
	if !a.Dead() || a.Pending() != 1 {
		t.Errorf("the first one: %v %v", a.Dead(), a.Pending())
	}
	stables(t, a, 3, 0)
}

// plain is a device as the chapter's words have it, with no thought of speed.
type plain struct {
	stable map[int]api.Sector
	list   []write
	ops    int
	left   int
	dead   bool
	len    int
}

// refused: is a Write or Flush of it refused?
func (p *plain) refused() bool {
	if p.dead || p.left == 0 {
		p.dead = true
		return true
	}
	p.left = max(p.left-1, -1)
	return false
}

func (p *plain) read(i int) (api.Sector, api.Errno) {
	p.ops++
	if i < 0 || i >= p.len {
		return zeros, api.ErrSector
	}
	if p.dead {
		return zeros, api.ErrPower
	}
	for _, w := range slices.Backward(p.list) {
		if w.at == i {
			return w.s, api.OK
		}
	}
	return p.stable[i], api.OK
}

func (p *plain) write(i int, s api.Sector) api.Errno {
	p.ops++
	if i < 0 || i >= p.len {
		return api.ErrSector
	}
	if p.refused() {
		return api.ErrPower
	}
	p.list = append(p.list, write{i, s})
	return api.OK
}

func (p *plain) flush() api.Errno {
	p.ops++
	if p.refused() {
		return api.ErrPower
	}
	for _, w := range p.list {
		p.stable[w.at] = w.s
	}
	p.list = nil
	return api.OK
}

func (p *plain) crash(keep []bool) {
	for n, w := range p.list {
		if n < len(keep) && keep[n] {
			p.stable[w.at] = w.s
		}
	}
	p.list, p.left, p.dead = nil, -1, false
}

func (p *plain) rot(i int, s api.Sector) api.Errno {
	if i < 0 || i >= p.len {
		return api.ErrSector
	}
	p.stable[i] = s
	for n := range p.list {
		if p.list[n].at == i {
			p.list[n].s = s
		}
	}
	return api.OK
}

// P4.1 to P4.4: in long mixed runs a device is as the plain one, in all that it tells.
func TestMixedRuns(t *testing.T) {
	for seed := range uint64(300) {
		next := func(n int) int {
			seed = seed*6364136223846793005 + 1442695040888963407
			return int(seed>>33) % n
		}
		sectors := 1 + next(6)
		d, p := New(sectors), &plain{stable: map[int]api.Sector{}, left: -1, len: sectors}
		for step := range 400 {
			i, s := next(sectors+2)-1, full(byte(next(256)))
			var e, want api.Errno
			kind := next(40)
			switch {
			case kind < 22:
				e, want = d.Write(i, s), p.write(i, s)
			case kind < 26:
				e, want = d.Flush(), p.flush()
			case kind < 33:
				e, want = d.Rot(i, s), p.rot(i, s)
			case kind < 36:
				n := next(12) - 3
				d.Break(n)
				p.left = max(n, -1)
			case kind < 38 || d.Dead() && next(3) == 0:
				keep := make([]bool, next(10))
				for n := range keep {
					keep[n] = next(2) == 0
				}
				d.Crash(keep...)
				p.crash(keep)
			}
			if e != want || d.Pending() != len(p.list) || d.Ops() != p.ops || d.Dead() != p.dead || d.Len() != sectors {
				t.Fatalf("step %v, kind %v: %v, not %v", step, kind, e, want)
			}
			for j := -1; j <= sectors; j++ {
				got, e := d.Read(j)
				want, wanted := p.read(j)
				if got != want || e != wanted || d.Stable(j) != p.stable[j] {
					t.Fatalf("step %v, kind %v: sector %v: %v %v, not %v %v", step, kind, j, got, e, want, wanted)
				}
			}
		}
	}
}
