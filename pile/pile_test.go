package pile

import (
	"bytes"
	"hash/crc32"
	"math"
	"slices"
	"testing"

	"aquifer/api"
	"aquifer/slab"
	"aquifer/span"
	"aquifer/vdev"
)

// nowhere are numbers of sectors that neither a map nor a device has.
var nowhere = []int{math.MinInt, math.MinInt + 1, math.MinInt + 4, -1 << 32, -1024, -64, -4, -1, 1024, 1025, 1028, 4095, 4096, 1<<16 + 4, 1<<32 + 4, 1<<58 + 4, math.MaxInt - 1, math.MaxInt}

// total is CRC-32C by the library, and not by layer 3.
func total(s api.Sector) uint32 {
	return crc32.Checksum(s[:], crc32.MakeTable(crc32.Castagnoli))
}

// filled is a block's bytes, with zeros behind.
func filled(b []byte) api.Sector {
	var s api.Sector
	for i := range b {
		s[i] = b[i]
	}
	return s
}

// text is so many bytes, none of them zero, that begin with one of their own.
func text(n int, first byte) []byte {
	b := make([]byte, n)
	for i := range b {
		b[i] = byte(i*7)%255 + 1
	}
	if n > 0 {
		b[0] = first
	}
	return b
}

// vain is a sector whose first byte is that and whose sum is 0: its last four bytes are the sum's bits as they must be there, found by going back from the end.
func vain(first byte) api.Sector {
	s := api.Sector{first}
	want := ^uint32(0)
	for range 32 {
		if want>>31 == 1 {
			want = (want^0x82F63B78)<<1 | 1
		} else {
			want <<= 1
		}
	}
	want ^= ^crc32.Checksum(s[:124], crc32.MakeTable(crc32.Castagnoli))
	for i := range 4 {
		s[124+i] = byte(want >> (8 * i))
	}
	return s
}

// made is a pile on a new device and a new map.
func made(device, all int, stamp, base uint64) (*Pile, *vdev.Dev, *slab.Map) {
	d, m := vdev.New(device), slab.New(all)
	return New(d, m, stamp, base), d, m
}

// puts puts bytes, which must be done.
func puts(t *testing.T, p *Pile, b []byte) api.Ptr {
	t.Helper()
	q, e := p.Put(b)
	if e != api.OK {
		t.Errorf("Put of %v bytes: %v", len(b), e)
	}
	return q
}

// gets: is this what the pile has there?
func gets(t *testing.T, why string, p *Pile, q api.Ptr, want api.Sector) {
	t.Helper()
	if s, e := p.Get(q); s != want || e != api.OK {
		t.Errorf("%v: Get of %v: %v %v", why, q, s, e)
	}
}

// refuses: does the pile answer just this error of a pointer?
func refuses(t *testing.T, why string, p *Pile, q api.Ptr, want api.Errno) {
	t.Helper()
	if s, e := p.Get(q); s != (api.Sector{}) || e != want {
		t.Errorf("%v: Get of %v: %v %v, not %v", why, q, s, e, want)
	}
}

// drops: does a Drop answer this?
func drops(t *testing.T, why string, p *Pile, q api.Ptr, want api.Errno) {
	t.Helper()
	if e := p.Drop(q); e != want {
		t.Errorf("%v: Drop of %v: %v, not %v", why, q, e, want)
	}
}

// holds: are just these sectors of the map taken, and just these to be free later?
func holds(t *testing.T, why string, m *slab.Map, taken, later []int) {
	t.Helper()
	if l := span.List(m.Taken()); !slices.Equal(l, taken) {
		t.Errorf("%v: taken are %v, not %v", why, l, taken)
	}
	if l := span.List(m.Waiting()); !slices.Equal(l, later) {
		t.Errorf("%v: waiting are %v, not %v", why, l, later)
	}
}

// stamps: are these the pile's stamps?
func stamps(t *testing.T, why string, p *Pile, stamp, base uint64) {
	t.Helper()
	if p.Stamp() != stamp || p.Base() != base {
		t.Errorf("%v: the stamp is %v and the base %v, not %v and %v", why, p.Stamp(), p.Base(), stamp, base)
	}
}

// dies takes a device's power.
func dies(t *testing.T, d *vdev.Dev) {
	t.Helper()
	d.Break(0)
	if e := d.Flush(); e != api.ErrPower || !d.Dead() {
		t.Errorf("the power isn't gone: %v", e)
	}
}

// The section Errors, and those of the layers below: their numbers.
func TestErrors(t *testing.T) {
	p, d, _ := made(66, 5, 1, 0)
	if _, e := p.Get(api.Ptr{At: 4, Birth: 1, Sum: 1}); e != 91 {
		t.Errorf("what isn't what was put: %v", e)
	}
	if _, e := p.Put(make([]byte, 129)); e != 92 {
		t.Errorf("Put of more than 128 bytes: %v", e)
	}
	if _, e := p.PutAt(4, nil); e != 72 {
		t.Errorf("PutAt of a free sector: %v", e)
	}
	if e := p.Drop(api.Ptr{At: 4, Birth: 1}); e != 72 {
		t.Errorf("Drop of a free sector: %v", e)
	}
	puts(t, p, nil)
	if _, e := p.Put(nil); e != 71 {
		t.Errorf("Put where nothing is free: %v", e)
	}
	d.Break(0)
	if _, e := p.PutAt(4, nil); e != 42 {
		t.Errorf("PutAt without power: %v", e)
	}
	p, _, m := made(2, 5, 1, 0)
	m.Take(4)
	if _, e := p.PutAt(4, nil); e != 41 {
		t.Errorf("PutAt of a sector that the device doesn't have: %v", e)
	}
}

// The chapter's example.
func TestExample(t *testing.T) {
	p, _, _ := made(64, 64, 1, 0)
	s, e := p.Get(puts(t, p, []byte("hi")))
	if e != api.OK || string(s[:2]) != "hi" || !bytes.Equal(s[2:], make([]byte, 126)) {
		t.Errorf("%v %v", s, e)
	}
}

// P9.1: a pile has just what it was made of, and works on that.
func TestNew(t *testing.T) {
	for _, c := range []struct{ stamp, base uint64 }{
		{0, 0}, {1, 0}, {0, 1}, {1, 1}, {5, 3}, {3, 5}, {7, 6}, {1 << 32, 1<<32 - 1},
		{api.MaxStamp, 0}, {0, api.MaxStamp}, {api.MaxStamp, api.MaxStamp}, {api.MaxStamp, api.MaxStamp - 1},
	} {
		for _, sectors := range [][2]int{{0, 0}, {66, 66}, {66, 1024}, {1024, 66}} {
			d, m := vdev.New(sectors[0]), slab.New(sectors[1])
			p := New(d, m, c.stamp, c.base)
			if p.Dev() != d || p.Map() != m {
				t.Errorf("another device or map: %v", sectors)
			}
			stamps(t, "new", p, c.stamp, c.base)
			if d.Ops() != 0 || d.Pending() != 0 || m.Count() != max(sectors[1]-4, 0) {
				t.Errorf("New did something to its device or map: %v", sectors)
			}
		}
	}
}

// P9.1: Next and Commit, one behind the other.
func TestNextAndCommit(t *testing.T) {
	p, d, m := made(66, 66, 5, 3)
	p.Next()
	stamps(t, "Next", p, 6, 3)
	p.Next()
	stamps(t, "Next again", p, 7, 3)
	p.Commit()
	stamps(t, "Commit behind Next", p, 8, 7)
	p.Commit()
	stamps(t, "Commit behind Commit", p, 9, 8)
	p.Next()
	stamps(t, "Next behind Commit", p, 10, 8)
	p.Commit()
	stamps(t, "Commit again", p, 11, 10)
	if p.Dev() != d || p.Map() != m || d.Ops() != 0 || m.Count() != 62 {
		t.Error("the device or the map is another one")
	}
}

// P9.1: all runs of eight Nexts and Commits, from some stamps on.
func TestAllNextsAndCommits(t *testing.T) {
	for _, c := range []struct{ stamp, base uint64 }{
		{0, 0}, {1, 0}, {1, 1}, {2, 9}, {1<<32 - 3, 7}, {api.MaxStamp - 8, 0}, {api.MaxStamp - 8, api.MaxStamp},
	} {
		for mix := range 1 << 8 {
			p, _, _ := made(64, 64, c.stamp, c.base)
			stamp, base := c.stamp, c.base
			for i := range 8 {
				if mix>>i&1 == 1 {
					p.Commit()
					base = stamp
				} else {
					p.Next()
				}
				stamp++
				stamps(t, "a mix", p, stamp, base)
			}
		}
	}
}

// P9.1: a Commit is the Map's, too; Next isn't; of both the device notices nothing.
func TestCommitOfTheMap(t *testing.T) {
	p, d, m := made(64, 64, 5, 3)
	for _, i := range []int{4, 5, 6} {
		m.Take(i)
	}
	m.Later(5)
	puts(t, p, []byte("x"))
	p.Next()
	p.Next()
	holds(t, "Next", m, []int{4, 6, 7}, []int{5})
	p.Commit()
	holds(t, "Commit", m, []int{4, 6, 7}, nil)
	if d.Pending() != 1 || d.Dead() {
		t.Errorf("%v writes are pending", d.Pending())
	}
	dies(t, d)
	m.Later(4)
	p.Commit()
	p.Next()
	holds(t, "Commit without power", m, []int{6, 7}, nil)
	stamps(t, "Commit without power", p, 10, 8)
}

// P9.2: a block's bytes, with zeros behind, and its pointer, by Put and by PutAt.
func TestPut(t *testing.T) {
	for _, n := range []int{0, 1, 2, 64, 126, 127, 128} {
		p, d, m := made(66, 66, 5, 3)
		d.Rot(4, filled(slices.Repeat([]byte{0xFF}, 128)))
		d.Rot(65, filled(slices.Repeat([]byte{0xFF}, 128)))
		was := d.Stable(4)
		want := filled(text(n, 9))
		if q := puts(t, p, text(n, 9)); q != (api.Ptr{At: 4, Birth: 5, Sum: total(want)}) {
			t.Errorf("Put of %v bytes: %v", n, q)
		}
		m.Take(65)
		if q, e := p.PutAt(65, text(n, 9)); q != (api.Ptr{At: 65, Birth: 5, Sum: total(want)}) || e != api.OK {
			t.Errorf("PutAt of %v bytes: %v %v", n, q, e)
		}
		for _, i := range []int{4, 65} {
			if s, e := d.Read(i); s != want || e != api.OK {
				t.Errorf("%v bytes, sector %v: %v %v", n, i, s, e)
			}
			gets(t, "what was put", p, api.Ptr{At: i, Birth: 5, Sum: total(want)}, want)
			if d.Stable(i) != was {
				t.Errorf("%v bytes, sector %v: stable ahead of a flush", n, i)
			}
		}
		if d.Pending() != 2 {
			t.Errorf("%v bytes: %v writes are pending", n, d.Pending())
		}
		holds(t, "what was put", m, []int{4, 65}, nil)
		stamps(t, "what was put", p, 5, 3)
	}
}

// P9.2: more than 128 bytes are refused, ahead of all else, and nothing is done.
func TestTooManyBytes(t *testing.T) {
	for _, n := range []int{129, 130, 255, 256, 257, 384, 1 << 16, 1<<16 + 5, 1 << 20} {
		b := make([]byte, n) // zeros are bytes, too
		p, d, m := made(66, 66, 5, 3)
		m.Take(4)
		refused := func(why string, taken ...int) {
			t.Helper()
			if q, e := p.Put(b); q != (api.Ptr{}) || e != api.ErrBlock {
				t.Errorf("%v: Put of %v bytes: %v %v", why, n, q, e)
			}
			for _, i := range append([]int{0, 3, 4, 5, 66}, nowhere...) {
				if q, e := p.PutAt(i, b); q != (api.Ptr{}) || e != api.ErrBlock {
					t.Errorf("%v: PutAt %v of %v bytes: %v %v", why, i, n, q, e)
				}
			}
			if d.Pending() != 0 {
				t.Errorf("%v: %v writes are pending", why, d.Pending())
			}
			holds(t, why, m, taken, nil)
		}
		refused("with power and room", 4)
		m.Many(m.Count())
		refused("without room", span.List(m.Taken())...)
		dies(t, d)
		refused("without power", span.List(m.Taken())...)
	}
}

// P9.2: what is handed in isn't changed, spare room included, and not kept.
func TestWhatIsHandedIn(t *testing.T) {
	p, _, m := made(66, 66, 5, 3)
	room := bytes.Repeat([]byte{7}, 300)
	b := room[10:13:200]
	q := puts(t, p, b)
	m.Take(9)
	r, _ := p.PutAt(9, b)
	if !bytes.Equal(room, bytes.Repeat([]byte{7}, 300)) {
		t.Error("what was handed in has changed")
	}
	for i := range room {
		room[i] = 99
	}
	s, _ := p.Get(q)
	for i := range s {
		s[i] = 98
	}
	gets(t, "Put, then written over", p, q, api.Sector{7, 7, 7})
	gets(t, "PutAt, then written over", p, r, api.Sector{7, 7, 7})
	stays := q
	q.At = 9
	gets(t, "a pointer written over", p, stays, api.Sector{7, 7, 7})
}

// P9.2: Put takes the sectors that Alloc tells, one after the other, up to the last one.
func TestPutsTakeAllThatIsFree(t *testing.T) {
	for _, sectors := range []int{5, 6, 64, 65, 66, 128, 150, 1024} {
		p, _, m := made(sectors, sectors, 5, 3)
		own := m.Copy()
		var all []api.Ptr
		for range sectors - 4 {
			want, _ := own.Alloc()
			q := puts(t, p, text(5, byte(want)))
			if q.At != want {
				t.Errorf("of %v sectors: Put at %v, not at %v", sectors, q.At, want)
			}
			all = append(all, q)
		}
		for range 2 {
			if q, e := p.Put(nil); q != (api.Ptr{}) || e != api.ErrSpace {
				t.Errorf("of %v sectors, all taken: %v %v", sectors, q, e)
			}
		}
		for _, q := range all {
			gets(t, "all are taken", p, q, filled(text(5, byte(q.At))))
		}
		holds(t, "all are taken", m, span.List(own.Taken()), nil)
	}
}

// P9.2: a map of which just one sector is free, and of which none is; what waits isn't free.
func TestPutOfTheLastSector(t *testing.T) {
	for _, last := range []int{4, 63, 64, 149} {
		p, d, m := made(150, 150, 5, 3)
		m.Many(m.Count())
		m.Free(last)
		q := puts(t, p, []byte("last"))
		if q.At != last || m.Count() != 0 {
			t.Errorf("%v: %v, then %v are free", last, q, m.Count())
		}
		drops(t, "born behind the base", p, q, api.OK)
		if r := puts(t, p, []byte("last")); r != q {
			t.Errorf("%v: %v, then %v", last, q, r)
		}
		m.Later(last)
		pending := d.Pending()
		if r, e := p.Put(nil); r != (api.Ptr{}) || e != api.ErrSpace {
			t.Errorf("%v waits: %v %v", last, r, e)
		}
		dies(t, d)
		if r, e := p.Put(nil); r != (api.Ptr{}) || e != api.ErrSpace || d.Pending() != pending {
			t.Errorf("%v waits, without power: %v %v", last, r, e)
		}
		d.Crash()
		p.Commit()
		if r := puts(t, p, []byte("last")); r.At != last || r.Birth != 6 {
			t.Errorf("%v behind a Commit: %v", last, r)
		}
	}
	for _, none := range []int{math.MinInt, -1, 0, 3, 4} {
		p, _, _ := made(64, none, 5, 3)
		if q, e := p.Put(nil); q != (api.Ptr{}) || e != api.ErrSpace {
			t.Errorf("a map of %v: %v %v", none, q, e)
		}
	}
}

// P9.2: PutAt asks whether the sector is taken, ahead of what the device says, and leaves the map as it is.
func TestPutAt(t *testing.T) {
	for _, powered := range []bool{true, false} {
		p, d, m := made(66, 66, 5, 3)
		for _, i := range []int{4, 6, 63, 64, 65} {
			m.Take(i)
		}
		m.Later(6)
		m.Later(64)
		if !powered {
			dies(t, d)
		}
		for _, i := range append([]int{0, 1, 2, 3, 5, 6, 7, 62, 64, 66, 67, 68, 132}, nowhere...) {
			if q, e := p.PutAt(i, []byte("x")); q != (api.Ptr{}) || e != api.ErrSlab {
				t.Errorf("PutAt %v, power %v: %v %v", i, powered, q, e)
			}
		}
		if d.Pending() != 0 {
			t.Errorf("%v writes are pending", d.Pending())
		}
		for _, i := range []int{4, 63, 65} {
			want := api.Ptr{At: i, Birth: 5, Sum: total(api.Sector{'x', byte(i)})}
			if q, e := p.PutAt(i, []byte{'x', byte(i)}); powered && (q != want || e != api.OK) || !powered && (q != (api.Ptr{}) || e != api.ErrPower) {
				t.Errorf("PutAt %v, power %v: %v %v", i, powered, q, e)
			}
		}
		holds(t, "PutAt", m, []int{4, 63, 65}, []int{6, 64})
	}
}

// P9.2: a sector becomes taken and isn't any more: PutAt asks it each time.
func TestPutAtAsTheMapChanges(t *testing.T) {
	p, _, m := made(66, 66, 5, 3)
	at := func(why string, want api.Errno) {
		t.Helper()
		if _, e := p.PutAt(9, []byte("x")); e != want {
			t.Errorf("%v: %v, not %v", why, e, want)
		}
	}
	at("free", api.ErrSlab)
	m.Take(9)
	at("taken", api.OK)
	m.Later(9)
	at("later", api.ErrSlab)
	m.Commit()
	at("free again", api.ErrSlab)
	m.Take(9)
	at("taken again", api.OK)
	m.Free(9)
	at("free at once", api.ErrSlab)
}

// P9.2: a device and a map of unlike sizes.
func TestUnlikeSizes(t *testing.T) {
	// The map has a second slab, the device doesn't: the roomiest slab isn't there.
	p, d, m := made(64, 128, 5, 3)
	for range 3 {
		if q, e := p.Put([]byte("x")); q != (api.Ptr{}) || e != api.ErrSector {
			t.Errorf("Put of a sector that the device doesn't have: %v %v", q, e)
		}
		if m.Count() != 124 || m.Room(1) != 64 || d.Pending() != 0 {
			t.Errorf("then %v are free, %v of them in the second slab", m.Count(), m.Room(1))
		}
		holds(t, "Put of a sector that the device doesn't have", m, nil, nil)
	}
	for _, i := range []int{63, 64, 127} {
		m.Take(i)
		want := api.ErrSector
		if i < 64 {
			want = api.OK
		}
		if q, e := p.PutAt(i, []byte("x")); e != want || (q == api.Ptr{}) != (e != api.OK) {
			t.Errorf("PutAt %v: %v %v", i, q, e)
		}
	}
	if _, e := p.PutAt(128, nil); e != api.ErrSlab {
		t.Errorf("PutAt 128: %v", e)
	}
	holds(t, "PutAt keeps what is taken", m, []int{63, 64, 127}, nil)
	drops(t, "a sector that the device doesn't have", p, api.Ptr{At: 64, Birth: 5, Sum: 1}, api.OK)
	drops(t, "a sector that the device doesn't have", p, api.Ptr{At: 127, Birth: 3, Sum: 1}, api.OK)
	holds(t, "Drop of what the device doesn't have", m, []int{63}, []int{127})

	// The device has more than the map: that is never given out, but read.
	p, d, m = made(128, 66, 5, 3)
	for range 62 {
		puts(t, p, []byte("y"))
	}
	if q, e := p.Put(nil); q != (api.Ptr{}) || e != api.ErrSpace {
		t.Errorf("Put where the map has nothing: %v %v", q, e)
	}
	if q, e := p.PutAt(66, nil); q != (api.Ptr{}) || e != api.ErrSlab {
		t.Errorf("PutAt of what the map doesn't have: %v %v", q, e)
	}
	s := api.Sector{4, 5, 6}
	d.Write(127, s)
	q := api.Ptr{At: 127, Birth: 1, Sum: total(s)}
	gets(t, "what the map doesn't have", p, q, s)
	drops(t, "what the map doesn't have", p, q, api.ErrSlab)
	if m.Count() != 0 {
		t.Errorf("%v are free", m.Count())
	}
}

// P9.2: behind a Put whose PutAt fails the map is as it was, and the next one comes to the same sector.
func TestPutThatFails(t *testing.T) {
	p, d, m := made(150, 150, 5, 3)
	for range 5 {
		puts(t, p, []byte("x"))
	}
	m.Later(65)
	was, count := m.Copy(), m.Count()
	want, _ := m.Copy().Alloc()
	d.Break(0)
	for range 3 {
		if q, e := p.Put([]byte("y")); q != (api.Ptr{}) || e != api.ErrPower {
			t.Errorf("Put without power: %v %v", q, e)
		}
		holds(t, "Put without power", m, span.List(was.Taken()), []int{65})
		if m.Count() != count {
			t.Errorf("Put without power: %v are free, not %v", m.Count(), count)
		}
	}
	stamps(t, "Put without power", p, 5, 3)
	d.Crash()
	q := puts(t, p, []byte("y"))
	if q.At != want {
		t.Errorf("behind the crash: %v, not at %v", q, want)
	}
	gets(t, "behind the crash", p, q, api.Sector{'y'})

	// The last free sector of all.
	m.Many(m.Count())
	m.Free(70)
	d.Break(0)
	if _, e := p.Put(nil); e != api.ErrPower || m.Count() != 1 || m.Room(1) != 1 {
		t.Errorf("of the last sector: %v, then %v are free", e, m.Count())
	}
}

// P9.2: of a PutAt that fails the sector stays taken.
func TestPutAtThatFails(t *testing.T) {
	p, d, m := made(66, 66, 5, 3)
	q := puts(t, p, []byte("x"))
	d.Flush()
	d.Break(0)
	if r, e := p.PutAt(4, []byte("y")); r != (api.Ptr{}) || e != api.ErrPower {
		t.Errorf("PutAt without power: %v %v", r, e)
	}
	holds(t, "PutAt without power", m, []int{4}, nil)
	d.Crash()
	gets(t, "what was there", p, q, api.Sector{'x'})
}

// P9.3: a hole is zeros, whatever the device has and says.
func TestGetOfAHole(t *testing.T) {
	for _, sectors := range []int{0, 1, 66} {
		p, d, _ := made(sectors, 66, 5, 3)
		gets(t, "new", p, api.Ptr{}, api.Sector{})
		d.Rot(0, vain(1)) // its sum is the hole's
		gets(t, "sector 0 has the sum 0", p, api.Ptr{}, api.Sector{})
		dies(t, d)
		gets(t, "without power", p, api.Ptr{}, api.Sector{})
	}
}

// P9.3: what is zero in some parts alone is no hole: it is read.
func TestGetOfWhatIsNearlyAHole(t *testing.T) {
	p, d, _ := made(66, 66, 5, 3)
	zeros := total(api.Sector{})
	gets(t, "a sum alone", p, api.Ptr{Sum: zeros}, api.Sector{})
	refuses(t, "another sum alone", p, api.Ptr{Sum: 1}, api.ErrCorrupt)
	refuses(t, "a birth alone", p, api.Ptr{Birth: 1}, api.ErrCorrupt)
	refuses(t, "a sector alone", p, api.Ptr{At: 9}, api.ErrCorrupt)
	refuses(t, "a sector and a birth", p, api.Ptr{At: 9, Birth: 1}, api.ErrCorrupt)
	d.Rot(9, vain(3))
	d.Rot(0, vain(4))
	gets(t, "a sector alone, of the sum 0", p, api.Ptr{At: 9}, vain(3))
	gets(t, "a birth alone, of the sum 0", p, api.Ptr{Birth: 1}, vain(4))
	dies(t, d)
	for _, q := range []api.Ptr{{Sum: zeros}, {Sum: 1}, {Birth: 1}, {At: 9}} {
		refuses(t, "without power", p, q, api.ErrPower)
	}
}

// P9.3: a sector that the device doesn't have is corrupt, with power and without it, whatever its sum.
func TestGetOfNoSector(t *testing.T) {
	zeros := total(api.Sector{})
	for _, sectors := range []int{0, 1, 5, 64, 1024} {
		p, d, _ := made(sectors, 1024, 5, 3)
		for range 2 {
			for _, i := range append([]int{sectors, sectors + 1}, nowhere...) {
				for _, sum := range []uint32{0, 1, zeros, math.MaxUint32} {
					refuses(t, "no sector", p, api.Ptr{At: i, Birth: 5, Sum: sum}, api.ErrCorrupt)
				}
			}
			dies(t, d)
		}
	}
}

// P9.3: just the sector and the sum are asked: whatever the birth, whatever the map says, of the ring's sectors, too.
func TestGetAsksTheSumAlone(t *testing.T) {
	p, d, m := made(66, 66, 5, 3)
	for i := range 66 {
		d.Write(i, filled(text(128, byte(i))))
	}
	for _, i := range []int{4, 5, 6, 64} {
		m.Take(i)
	}
	m.Later(5)
	for i := range 66 {
		s := filled(text(128, byte(i)))
		for _, birth := range []uint64{0, 1, 3, 4, 5, 6, api.MaxStamp, api.MaxStamp + 1, math.MaxUint64} {
			q := api.Ptr{At: i, Birth: birth, Sum: total(s)}
			gets(t, "its own sum", p, q, s)
			for _, sum := range []uint32{q.Sum + 1, q.Sum - 1, q.Sum ^ 1<<31, ^q.Sum, 0, math.MaxUint32} {
				if r := (api.Ptr{At: i, Birth: birth, Sum: sum}); r != (api.Ptr{}) {
					refuses(t, "another sum", p, r, api.ErrCorrupt)
				}
			}
		}
	}
	holds(t, "Get", m, []int{4, 6, 64}, []int{5})
	if d.Pending() != 66 {
		t.Errorf("%v writes are pending", d.Pending())
	}
}

// P9.3: each bit of a sector and of a sum counts.
func TestGetOfTurnedBits(t *testing.T) {
	p, d, _ := made(66, 66, 5, 3)
	q := puts(t, p, text(100, 1))
	was := filled(text(100, 1))
	for bit := range 8 * 128 {
		s := was
		s[bit/8] ^= 1 << (bit % 8)
		d.Rot(4, s)
		refuses(t, "a turned bit", p, q, api.ErrCorrupt)
	}
	d.Rot(4, was)
	for bit := range 32 {
		r := q
		r.Sum ^= 1 << bit
		refuses(t, "a turned bit of the sum", p, r, api.ErrCorrupt)
	}
	gets(t, "as it was", p, q, was)
}

// P9.3: what was overwritten isn't had any more, but by its new pointer, or where the bytes are the same.
func TestGetOfWhatWasOverwritten(t *testing.T) {
	p, d, m := made(66, 66, 5, 3)
	q := puts(t, p, []byte("one"))
	p.Next()
	r, e := p.PutAt(q.At, []byte("two"))
	if e != api.OK || r.At != q.At || r.Birth != 6 || r.Sum == q.Sum {
		t.Errorf("PutAt: %v %v behind %v", r, e, q)
	}
	refuses(t, "overwritten by PutAt", p, q, api.ErrCorrupt)
	gets(t, "by the new pointer", p, r, filled([]byte("two")))
	again, _ := p.PutAt(q.At, []byte("two\x00\x00"))
	if again != r {
		t.Errorf("the same bytes: %v, then %v", r, again)
	}
	gets(t, "overwritten with the same bytes", p, r, filled([]byte("two")))
	d.Rot(q.At, filled([]byte("two")))
	gets(t, "rotten to the same bytes", p, r, filled([]byte("two")))
	d.Rot(q.At, filled([]byte("Two")))
	refuses(t, "rotten", p, r, api.ErrCorrupt)
	d.Flush()
	refuses(t, "rotten, then flushed", p, r, api.ErrCorrupt)
	d.Rot(q.At, filled([]byte("one")))
	gets(t, "rotten to what was there first", p, q, filled([]byte("one")))
	refuses(t, "rotten to what was there first", p, r, api.ErrCorrupt)
	holds(t, "overwritten", m, []int{4}, nil)
}

// P9.3: what is dropped is there until another block is put in its place.
func TestGetOfWhatWasDropped(t *testing.T) {
	p, _, _ := made(64, 64, 5, 3)
	q := puts(t, p, []byte("one"))
	drops(t, "a block", p, q, api.OK)
	gets(t, "dropped", p, q, filled([]byte("one")))
	r := puts(t, p, []byte("two"))
	if r.At != q.At {
		t.Errorf("%v isn't where %v was", r, q)
	}
	refuses(t, "dropped, and another one put there", p, q, api.ErrCorrupt)
	gets(t, "the other one", p, r, filled([]byte("two")))
}

// P9.3: a hole is dropped without anything happening.
func TestDropOfAHole(t *testing.T) {
	p, d, m := made(66, 66, 5, 3)
	m.Take(4)
	m.Take(5)
	m.Later(5)
	drops(t, "a hole", p, api.Ptr{}, api.OK)
	dies(t, d)
	drops(t, "a hole without power", p, api.Ptr{}, api.OK)
	m.Many(m.Count())
	drops(t, "a hole, all taken", p, api.Ptr{}, api.OK)
	if m.Count() != 0 || !slices.Equal(span.List(m.Waiting()), []int{5}) {
		t.Errorf("%v are free, waiting are %v", m.Count(), m.Waiting())
	}
}

// P9.3: what was born above the base is free at once; what was born at it or below it later. The stamp isn't asked.
func TestDropByBirth(t *testing.T) {
	for _, base := range []uint64{0, 1, 2, 7, 1 << 32, api.MaxStamp - 1, api.MaxStamp} {
		for _, stamp := range []uint64{0, 1, 7, base, base + 1, api.MaxStamp} {
			if stamp > api.MaxStamp {
				continue
			}
			for _, birth := range []uint64{0, 1, 2, base / 2, base - 1, base, base + 1, base + 2, stamp, api.MaxStamp, api.MaxStamp + 1, 1 << 63, math.MaxUint64} {
				for _, sum := range []uint32{0, 1, math.MaxUint32} {
					p, d, m := made(66, 66, stamp, base)
					m.Take(9)
					m.Take(65)
					later := []int{9}
					if birth > base {
						later = nil
					}
					drops(t, "taken", p, api.Ptr{At: 9, Birth: birth, Sum: sum}, api.OK)
					holds(t, "dropped", m, []int{65}, later)
					if m.Count() != 61-len(later) || d.Ops() != 0 {
						t.Errorf("base %v, birth %v: then %v are free, %v were asked of the device", base, birth, m.Count(), d.Ops())
					}
					stamps(t, "dropped", p, stamp, base)
				}
			}
		}
	}
}

// P9.3: what isn't taken isn't dropped, whenever it was born.
func TestDropOfWhatIsNotTaken(t *testing.T) {
	p, d, m := made(66, 66, 5, 3)
	m.Take(8)
	m.Take(9)
	m.Later(9)
	for range 2 {
		for _, i := range append([]int{0, 1, 2, 3, 4, 7, 9, 64, 65, 66, 67, 1023}, nowhere...) {
			for _, birth := range []uint64{0, 1, 3, 4, 5, 6, api.MaxStamp, math.MaxUint64} {
				for _, sum := range []uint32{1, math.MaxUint32} {
					drops(t, "not taken", p, api.Ptr{At: i, Birth: birth, Sum: sum}, api.ErrSlab)
				}
			}
		}
		holds(t, "not taken", m, []int{8}, []int{9})
		if m.Count() != 60 {
			t.Errorf("%v are free", m.Count())
		}
		dies(t, d)
	}
	for _, q := range []api.Ptr{{Sum: 1}, {Birth: 1}, {Birth: 9}, {At: 3}, {At: 4}} {
		drops(t, "nearly a hole", p, q, api.ErrSlab)
	}
}

// P9.3: the same pointer twice, ahead of a Commit and behind it.
func TestDropTwice(t *testing.T) {
	p, _, m := made(64, 64, 5, 5)
	old := api.Ptr{At: 4, Birth: 5, Sum: 1}
	m.Take(4)
	p.Next()
	young := puts(t, p, []byte("young"))
	drops(t, "old", p, old, api.OK)
	drops(t, "old again", p, old, api.ErrSlab)
	drops(t, "young", p, young, api.OK)
	drops(t, "young again", p, young, api.ErrSlab)
	holds(t, "ahead of a Commit", m, nil, []int{4})
	p.Commit()
	drops(t, "old behind a Commit", p, old, api.ErrSlab)
	drops(t, "young behind a Commit", p, young, api.ErrSlab)
	holds(t, "behind a Commit", m, nil, nil)
	if m.Count() != 60 {
		t.Errorf("%v are free", m.Count())
	}
}

// P9.1, P9.3: what was put ahead of a Commit counts behind it: dropped, it is free behind the next one.
func TestDropAndCommit(t *testing.T) {
	p, _, m := made(64, 64, 1, 0)
	q := puts(t, p, []byte("a")) // born at 1
	p.Next()
	r := puts(t, p, []byte("b")) // born at 2
	drops(t, "born behind the base, and a Next", p, q, api.OK)
	holds(t, "ahead of the first Commit", m, []int{5}, nil)
	q = puts(t, p, []byte("c")) // born at 2
	p.Commit()
	s := puts(t, p, []byte("d")) // born at 3
	if q.Birth != 2 || r.Birth != 2 || s.Birth != 3 {
		t.Errorf("born at %v, %v, %v", q.Birth, r.Birth, s.Birth)
	}
	drops(t, "what counts", p, q, api.OK)
	drops(t, "what doesn't count", p, s, api.OK)
	holds(t, "behind the first Commit", m, []int{5}, []int{4})
	if x := puts(t, p, nil); x.At != 6 {
		t.Errorf("what waits was given out, or what is free wasn't: %v", x)
	}
	p.Next()
	drops(t, "what counts, behind a Next", p, r, api.OK)
	holds(t, "behind a Next", m, []int{6}, []int{4, 5})
	p.Commit()
	holds(t, "behind the second Commit", m, []int{6}, nil)
	if x := puts(t, p, nil); x.At != 4 || x.Birth != 5 {
		t.Errorf("behind the second Commit: %v", x)
	}
}

// P9.1 to P9.3: the stamps at their ends.
func TestStampsAtTheirEnds(t *testing.T) {
	for _, c := range []struct {
		stamp, base uint64
		later       bool // is what is put and dropped free later?
	}{
		{0, 0, true}, {1, 0, false}, {1, 1, true}, {api.MaxStamp, 0, false},
		{api.MaxStamp, api.MaxStamp - 1, false}, {api.MaxStamp, api.MaxStamp, true}, {0, api.MaxStamp, true},
	} {
		p, _, m := made(66, 66, c.stamp, c.base)
		q := puts(t, p, []byte("x"))
		if want := (api.Ptr{At: 4, Birth: c.stamp, Sum: total(api.Sector{'x'})}); q != want {
			t.Errorf("stamp %v: %v", c.stamp, q)
		}
		m.Take(9)
		if r, e := p.PutAt(9, []byte("x")); r.Birth != c.stamp || e != api.OK {
			t.Errorf("stamp %v: PutAt %v %v", c.stamp, r, e)
		}
		gets(t, "at an end", p, q, api.Sector{'x'})
		drops(t, "at an end", p, q, api.OK)
		if (len(m.Waiting()) == 1) != c.later {
			t.Errorf("stamp %v, base %v: waiting are %v", c.stamp, c.base, m.Waiting())
		}
	}
	p, _, _ := made(66, 66, 0, 0)
	p.Next()
	stamps(t, "Next of 0", p, 1, 0)
	p, _, _ = made(66, 66, 0, 7)
	p.Commit()
	stamps(t, "Commit at 0", p, 1, 0)
	p, _, _ = made(66, 66, api.MaxStamp-1, 0)
	p.Commit()
	stamps(t, "Commit just below the end", p, api.MaxStamp, api.MaxStamp-1)
	if q := puts(t, p, nil); q.Birth != api.MaxStamp {
		t.Errorf("at the end: %v", q)
	}
}

// P9.2, P9.3: behind a Break so many blocks are put, by Put or PutAt, and then none is put or had; which are there behind the Crash is as that says.
func TestBreakAndCrash(t *testing.T) {
	for n := range 5 {
		for keep := range 1 << n {
			p, d, m := made(64, 64, 5, 3)
			flushed := puts(t, p, []byte("flushed"))
			d.Flush()
			d.Break(n)
			var l []api.Ptr
			for i := range n {
				if i%2 == 0 {
					l = append(l, puts(t, p, text(9, byte(i))))
					continue
				}
				m.Take(40 + i)
				q, e := p.PutAt(40+i, text(9, byte(i)))
				if e != api.OK {
					t.Errorf("PutAt %v behind a Break of %v: %v", i, n, e)
				}
				l = append(l, q)
			}
			gets(t, "the power is there", p, flushed, filled([]byte("flushed")))
			for i, q := range l {
				gets(t, "the power is there", p, q, filled(text(9, byte(i))))
			}
			taken := span.List(m.Taken())
			if q, e := p.Put(nil); q != (api.Ptr{}) || e != api.ErrPower || !d.Dead() {
				t.Errorf("Put behind a Break of %v: %v %v", n, q, e)
			}
			if q, e := p.PutAt(4, nil); q != (api.Ptr{}) || e != api.ErrPower {
				t.Errorf("PutAt behind a Break of %v: %v %v", n, q, e)
			}
			for _, q := range append(l, flushed) {
				refuses(t, "the power is gone", p, q, api.ErrPower)
			}
			holds(t, "the power is gone", m, taken, nil)
			var kept []bool
			for i := range n {
				kept = append(kept, keep>>i&1 == 1)
			}
			d.Crash(kept...)
			gets(t, "behind the crash", p, flushed, filled([]byte("flushed")))
			for i, q := range l {
				if kept[i] {
					gets(t, "kept", p, q, filled(text(9, byte(i))))
				} else {
					refuses(t, "not kept", p, q, api.ErrCorrupt)
				}
			}
			holds(t, "behind the crash", m, taken, nil)
			drops(t, "behind the crash", p, flushed, api.OK)
		}
	}
}

// P9.2, P9.3: a crash that goes back to what a sector had first has that again.
func TestCrashGoesBack(t *testing.T) {
	p, d, _ := made(64, 64, 5, 3)
	one := puts(t, p, []byte("one"))
	d.Flush()
	two, _ := p.PutAt(one.At, []byte("two"))
	refuses(t, "overwritten", p, one, api.ErrCorrupt)
	d.Crash()
	gets(t, "behind the crash", p, one, filled([]byte("one")))
	refuses(t, "behind the crash", p, two, api.ErrCorrupt)
}

// P9.1 to P9.3: two piles on the same device and map have their own stamps, and all else together.
func TestTwoPiles(t *testing.T) {
	d, m := vdev.New(64), slab.New(64)
	p, o := New(d, m, 5, 3), New(d, m, 9, 8)
	q, r := puts(t, p, []byte("p")), puts(t, o, []byte("o"))
	if q.At != 4 || r.At != 5 || q.Birth != 5 || r.Birth != 9 {
		t.Errorf("%v %v", q, r)
	}
	gets(t, "put by the other one", p, r, api.Sector{'o'})
	gets(t, "put by the other one", o, q, api.Sector{'p'})
	if x, e := o.PutAt(4, []byte("x")); e != api.OK || x.Birth != 9 {
		t.Errorf("PutAt of what the other one took: %v %v", x, e)
	}
	refuses(t, "overwritten by the other one", p, q, api.ErrCorrupt)
	p.Next()
	stamps(t, "its own Next", p, 6, 3)
	stamps(t, "the other one's Next", o, 9, 8)
	drops(t, "below its base", o, q, api.OK)
	holds(t, "below its base", m, []int{5}, []int{4})
	drops(t, "dropped by the other one", p, q, api.ErrSlab)
	p.Commit()
	holds(t, "the other one's Commit", m, []int{5}, nil)
	stamps(t, "its own Commit", p, 7, 6)
	stamps(t, "the other one's Commit", o, 9, 8)
	drops(t, "above its base", p, r, api.OK)
	holds(t, "above its base", m, nil, nil)
	if p.Dev() != o.Dev() || p.Map() != o.Map() {
		t.Error("the devices or the maps are two")
	}
	// A copy of the map is a map of its own.
	c := New(d, m.Copy(), 5, 3)
	a, b := puts(t, p, []byte("a")), puts(t, c, []byte("b"))
	if a.At != b.At || m.Count() != 59 || c.Map() == m {
		t.Errorf("%v %v", a, b)
	}
	refuses(t, "overwritten by the one with a copy", p, a, api.ErrCorrupt)
}

// P1: every call ends and none panics, of stamps that can't be, too.
func TestNoPanic(t *testing.T) {
	ends := []uint64{0, 1, api.MaxStamp, api.MaxStamp + 1, 1 << 63, math.MaxUint64 - 1, math.MaxUint64}
	for _, stamp := range ends {
		for _, base := range ends {
			for _, sectors := range [][2]int{{0, 0}, {0, 1024}, {1024, 0}, {math.MinInt, math.MaxInt}, {math.MaxInt, math.MinInt}, {5, 5}} {
				p, _, _ := made(sectors[0], sectors[1], stamp, base)
				for range 3 {
					p.Put(nil)
					p.Put(make([]byte, 129))
					for _, i := range append([]int{0, 4, 5, 63}, nowhere...) {
						p.PutAt(i, []byte("x"))
						for _, birth := range ends {
							p.Get(api.Ptr{At: i, Birth: birth, Sum: math.MaxUint32})
							p.Drop(api.Ptr{At: i, Birth: birth, Sum: 0})
						}
					}
					p.Next()
					p.Commit()
				}
			}
		}
	}
}

// plain is a pile written word by word from the chapters, with a device and a map of its own.
type plain struct {
	stable, newest []api.Sector
	pending        []int // of the sectors that were written
	left           int
	dead           bool
	state          map[int]string
	stamp, base    uint64
}

func newPlain(device, all int, stamp, base uint64) *plain {
	p := &plain{stable: make([]api.Sector, device), newest: make([]api.Sector, device), left: -1, state: map[int]string{}, stamp: stamp, base: base}
	for i := 4; i < all; i++ {
		p.state[i] = "free"
	}
	return p
}

func (p *plain) putAt(i int, b []byte) (api.Ptr, api.Errno) {
	switch {
	case len(b) > 128:
		return api.Ptr{}, 92
	case p.state[i] != "taken":
		return api.Ptr{}, 72
	case i >= len(p.newest):
		return api.Ptr{}, 41
	case p.dead || p.left == 0:
		p.dead = true
		return api.Ptr{}, 42
	}
	p.left = max(p.left-1, -1)
	p.newest[i] = filled(b)
	p.pending = append(p.pending, i)
	return api.Ptr{At: i, Birth: p.stamp, Sum: total(filled(b))}, 0
}

func (p *plain) put(b []byte) (api.Ptr, api.Errno) {
	if len(b) > 128 {
		return api.Ptr{}, 92
	}
	best, most := 0, 0
	for slab := range 16 {
		lowest, room := 0, 0
		for i := 64*slab + 63; i >= 64*slab; i-- {
			if p.state[i] == "free" {
				lowest, room = i, room+1
			}
		}
		if room > most {
			best, most = lowest, room
		}
	}
	if most == 0 {
		return api.Ptr{}, 71
	}
	p.state[best] = "taken"
	q, e := p.putAt(best, b)
	if e != 0 {
		p.state[best] = "free"
	}
	return q, e
}

func (p *plain) get(q api.Ptr) (api.Sector, api.Errno) {
	switch {
	case q == api.Ptr{}:
		return api.Sector{}, 0
	case q.At < 0 || q.At >= len(p.newest):
		return api.Sector{}, 91
	case p.dead:
		return api.Sector{}, 42
	case total(p.newest[q.At]) != q.Sum:
		return api.Sector{}, 91
	}
	return p.newest[q.At], 0
}

func (p *plain) drop(q api.Ptr) api.Errno {
	switch {
	case q == api.Ptr{}:
		return 0
	case p.state[q.At] != "taken":
		return 72
	case q.Birth > p.base:
		p.state[q.At] = "free"
	default:
		p.state[q.At] = "later"
	}
	return 0
}

func (p *plain) commit() {
	for i, what := range p.state {
		if what == "later" {
			p.state[i] = "free"
		}
	}
	p.base = p.stamp
	p.stamp++
}

// crash keeps all that was written, or nothing of it.
func (p *plain) crash(keep bool) int {
	many := len(p.pending)
	if keep {
		p.stable = slices.Clone(p.newest)
	}
	p.newest, p.pending, p.left, p.dead = slices.Clone(p.stable), nil, -1, false
	return many
}

func (p *plain) all(what string) []int {
	var l []int
	for i := range 1024 {
		if p.state[i] == what {
			l = append(l, i)
		}
	}
	return l
}

// P9.1 to P9.3: long mixed runs, held against the plain pile.
func TestMixedRuns(t *testing.T) {
	seed := uint32(11)
	next := func(n int) int {
		seed = seed*1664525 + 1013904223
		return int(seed>>8) % n
	}
	for _, c := range [][2]int{{5, 5}, {8, 8}, {64, 64}, {66, 66}, {66, 70}, {64, 128}, {130, 80}, {200, 200}} {
		p, d, m := made(c[0], c[1], 1, 0)
		o := newPlain(c[0], c[1], 1, 0)
		l := []api.Ptr{{}, {At: 4, Birth: 1}, {At: 900, Birth: 1, Sum: 1}, {At: -1}}
		for round := range 3000 {
			q := l[next(len(l))]
			b := text(next(7)*22, byte(next(3)))
			switch next(16) {
			case 0, 1, 2, 3, 4:
				x, e := p.Put(b)
				y, f := o.put(b)
				if x != y || e != f {
					t.Fatalf("%v, round %v: Put %v %v, not %v %v", c, round, x, e, y, f)
				}
				l = append(l, x)
			case 5, 6:
				i := next(c[1]+8) - 2
				x, e := p.PutAt(i, b)
				y, f := o.putAt(i, b)
				if x != y || e != f {
					t.Fatalf("%v, round %v: PutAt %v: %v %v, not %v %v", c, round, i, x, e, y, f)
				}
				l = append(l, x)
			case 7, 8, 9:
				if e, f := p.Drop(q), o.drop(q); e != f {
					t.Fatalf("%v, round %v: Drop of %v: %v, not %v", c, round, q, e, f)
				}
			case 10, 11:
				x, e := p.Get(q)
				y, f := o.get(q)
				if x != y || e != f {
					t.Fatalf("%v, round %v: Get of %v: %v %v, not %v %v", c, round, q, x, e, y, f)
				}
			case 12:
				p.Next()
				o.stamp++
			case 13:
				if next(3) == 0 {
					p.Commit()
					o.commit()
				}
			case 14:
				rotten := filled(b[:min(len(b), 128)])
				if q.At > 3 && d.Rot(q.At, rotten) == api.OK {
					o.stable[q.At], o.newest[q.At] = rotten, rotten
				}
			case 15:
				o.left = next(30) - 1
				d.Break(o.left)
				if next(4) == 0 || o.dead {
					keep := next(2) == 0
					d.Crash(slices.Repeat([]bool{keep}, o.crash(keep))...)
				}
			}
			stamps(t, "a mixed run", p, o.stamp, o.base)
			if round%20 == 0 {
				holds(t, "a mixed run", m, o.all("taken"), o.all("later"))
			}
			if t.Failed() {
				t.Fatalf("%v, round %v", c, round)
			}
		}
		for _, q := range l {
			x, e := p.Get(q)
			if y, f := o.get(q); x != y || e != f {
				t.Errorf("%v, the end: Get of %v: %v %v, not %v %v", c, q, x, e, y, f)
			}
		}
		holds(t, "the end of a mixed run", m, o.all("taken"), o.all("later"))
	}
}
