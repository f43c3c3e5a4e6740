package blob

import (
	"bytes"
	"encoding/binary"
	"hash/crc32"
	"math"
	"slices"
	"testing"

	"aquifer/api"
	"aquifer/pile"
	"aquifer/slab"
	"aquifer/span"
	"aquifer/vdev"
)

var (
	none = api.Ptr{}

	// lengths are those at whose edges a LEVEL, a NODE or a block begins or ends.
	lengths = []int{
		1, 2, 47, 48, 49, 126, 127, 128, 129, 130, 255, 256, 257, 300, // one block, two, three
		7 * 128, 8*128 - 1, 8 * 128, 8*128 + 1, 9 * 128, 9*128 + 1, // one NODE
		15 * 128, 16 * 128, 16*128 + 1, 17 * 128, // two NODES
		56 * 128, 57 * 128, 63*128 - 127, 63 * 128, 64*128 - 1, 64 * 128, 64*128 + 1, 65 * 128, // eight NODES
		72*128 + 1, 128 * 128, 128*128 + 1, 448 * 128, 448*128 + 1, // LEVELS of four
		504 * 128, 511*128 - 1, 511 * 128, 511*128 + 1, 65534, 65535, // sixty-four NODES
	}

	// noLengths are no texts'; many are one's, if they go round somewhere.
	noLengths = []int{0, 65536, -1, 65537, 65536 + 128, 65664, 1 << 17, 1<<17 + 1, 1 << 20, 1<<31 - 1, 1 << 31, 1<<31 + 1, 1 << 32, 1<<32 + 1, 1<<32 + 300, -127, -128, -129, -300, -65535, -65536, -1 << 31, -1<<31 + 1, -1 << 32, 1 - 1<<32, 1 << 48, 1 << 62, math.MaxInt - 127, math.MaxInt - 1, math.MaxInt, math.MinInt, math.MinInt + 1, math.MinInt + 300}
)

// total is CRC-32C by the library, and not by layer 3.
func total(s api.Sector) uint32 {
	return crc32.Checksum(s[:], crc32.MakeTable(crc32.Castagnoli))
}

// filled is a block's bytes, with zeros behind.
func filled(b []byte) api.Sector {
	var s api.Sector
	for i := range b {
		s[i] = b[i]
	}
	return s
}

// text is so many bytes, none of them zero, no two blocks of which are alike.
func text(n int) []byte {
	b := make([]byte, n)
	for i := range b {
		switch i % 128 {
		case 0:
			b[i] = byte(i/128)%251 + 1
		case 1:
			b[i] = byte(i/128/251) + 1
		default:
			b[i] = byte(i*7)%255 + 1
		}
	}
	return b
}

// laid is pointers' parts as a sector, whether they can be or not.
func laid(l ...api.Ptr) api.Sector {
	var b []byte
	for _, p := range l {
		b = binary.LittleEndian.AppendUint32(b, uint32(p.At))
		b = binary.LittleEndian.AppendUint64(b, p.Birth)
		b = binary.LittleEndian.AppendUint32(b, p.Sum)
	}
	return filled(b)
}

// told is what a sector's bytes tell.
func told(s api.Sector) [8]api.Ptr {
	var l [8]api.Ptr
	for i := range l {
		b := s[16*i:]
		l[i] = api.Ptr{At: int(binary.LittleEndian.Uint32(b)), Birth: binary.LittleEndian.Uint64(b[4:]), Sum: binary.LittleEndian.Uint32(b[12:])}
	}
	return l
}

// to is the pointer to a sector of these bytes.
func to(at int, birth uint64, s api.Sector) api.Ptr {
	return api.Ptr{At: at, Birth: birth, Sum: total(s)}
}

// made is a pile on a new device and a new map, with the stamp 1.
func made(sectors int) (*pile.Pile, *vdev.Dev, *slab.Map) {
	d, m := vdev.New(sectors), slab.New(sectors)
	return pile.New(d, m, 1, 0), d, m
}

// takes takes so many sectors.
func takes(t *testing.T, p *pile.Pile, n int) []int {
	t.Helper()
	l, e := p.Map().Many(n)
	if e != api.OK || len(l) != n {
		t.Fatalf("%v sectors: %v %v", n, l, e)
	}
	return l
}

// row takes these sectors, one behind the other.
func row(t *testing.T, p *pile.Pile, from, n int) []int {
	t.Helper()
	var l []int
	for i := range n {
		if e := p.Map().Take(from + i); e != api.OK {
			t.Fatalf("Take of %v: %v", from+i, e)
		}
		l = append(l, from+i)
	}
	return l
}

// saves saves a text, which must be done.
func saves(t *testing.T, p *pile.Pile, b []byte, at []int) api.Ptr {
	t.Helper()
	q, e := Save(p, b, at)
	if e != api.OK || q == none {
		t.Fatalf("Save of %v bytes: %v %v", len(b), q, e)
	}
	return q
}

// kept saves a text in sectors that are taken for it, and tells these too.
func kept(t *testing.T, p *pile.Pile, b []byte) (api.Ptr, []int) {
	t.Helper()
	at := takes(t, p, Need(len(b)))
	return saves(t, p, b, at), at
}

// loads: is this the text under the pointer? The pointers to its sectors are told.
func loads(t *testing.T, why string, p *pile.Pile, root api.Ptr, want []byte) []api.Ptr {
	t.Helper()
	b, l, e := Load(p, root, len(want))
	if !bytes.Equal(b, want) || e != api.OK {
		t.Errorf("%v: Load of %v bytes: %v bytes, %v; %v, not %v", why, len(want), len(b), e, b[:min(len(b), 40)], want[:min(len(want), 40)])
	}
	return l
}

// refuses: does Load answer just this error?
func refuses(t *testing.T, why string, p *pile.Pile, root api.Ptr, n int, want api.Errno) {
	t.Helper()
	if b, l, e := Load(p, root, n); len(b) != 0 || len(l) != 0 || e != want {
		t.Errorf("%v: Load of %v bytes: %v bytes, %v, %v, not %v", why, n, len(b), l, e, want)
	}
}

// unsaved: does Save answer just this error?
func unsaved(t *testing.T, why string, p *pile.Pile, b []byte, at []int, want api.Errno) {
	t.Helper()
	if q, e := Save(p, b, at); q != none || e != want {
		t.Errorf("%v: Save of %v bytes in %v sectors: %v %v, not %v", why, len(b), len(at), q, e, want)
	}
}

// undone: does Save answer just this error, and write nothing?
func undone(t *testing.T, why string, p *pile.Pile, b []byte, at []int, want api.Errno) {
	t.Helper()
	was := p.Dev().Pending()
	unsaved(t, why, p, b, at, want)
	if n := p.Dev().Pending(); n != was {
		t.Errorf("%v: Save of %v bytes in %v sectors: %v were written", why, len(b), len(at), n-was)
	}
}

// reads: are these a sector's bytes?
func reads(t *testing.T, why string, d *vdev.Dev, at int, want api.Sector) {
	t.Helper()
	if s, e := d.Read(at); s != want || e != api.OK {
		t.Errorf("%v: sector %v: %v %v, not %v", why, at, s, e, want)
	}
}

// rots lays bytes in a sector, and tells the pointer to them.
func rots(t *testing.T, d *vdev.Dev, at int, birth uint64, s api.Sector) api.Ptr {
	t.Helper()
	if e := d.Rot(at, s); e != api.OK {
		t.Fatalf("Rot of %v: %v", at, e)
	}
	return to(at, birth, s)
}

// dies takes a device's power.
func dies(t *testing.T, d *vdev.Dev) {
	t.Helper()
	d.Break(0)
	if e := d.Flush(); e != api.ErrPower || !d.Dead() {
		t.Fatalf("the power isn't gone: %v", e)
	}
}

// stable makes all that was written stable.
func stable(t *testing.T, d *vdev.Dev) {
	t.Helper()
	if e := d.Flush(); e != api.OK {
		t.Fatalf("Flush: %v", e)
	}
}

// wantedLevels are a text's sectors, LEVEL by LEVEL, and the pointers to them, as the chapter has it word by word, each at the next one of at.
func wantedLevels(b []byte, at []int, birth uint64) ([][]api.Sector, [][]api.Ptr) {
	var level []api.Sector
	for i := 0; i < len(b); i += 128 {
		level = append(level, filled(b[i:min(i+128, len(b))]))
	}
	var sectors [][]api.Sector
	var pointers [][]api.Ptr
	for {
		var l []api.Ptr
		for _, s := range level {
			l = append(l, to(at[0], birth, s))
			at = at[1:]
		}
		sectors, pointers = append(sectors, level), append(pointers, l)
		if len(level) == 1 {
			return sectors, pointers
		}
		level = nil
		for i := 0; i < len(l); i += 8 {
			level = append(level, laid(l[i:min(i+8, len(l))]...))
		}
	}
}

// fromTheRoot are the pointers of all LEVELS, the root first, each from its beginning.
func fromTheRoot(levels [][]api.Ptr) []api.Ptr {
	var l []api.Ptr
	for i := range levels {
		l = append(l, levels[len(levels)-1-i]...)
	}
	return l
}

// plainNeed is how many sectors there are, counted one by one.
func plainNeed(n int) int {
	if n < 1 || n > 65535 {
		return 0
	}
	level, need := 0, 0
	for ; n > 0; n -= 128 {
		level++
	}
	for need = level; level > 1; need += level {
		next := 0
		for ; level > 0; level -= 8 {
			next++
		}
		level = next
	}
	return need
}

// The section Errors, and layer 9's: their numbers.
func TestErrors(t *testing.T) {
	p, d, m := made(100)
	if _, e := Save(p, nil, nil); e != 121 {
		t.Errorf("Save of nothing: %v", e)
	}
	if _, e := Save(p, []byte("hi"), []int{9, 9}); e != 121 {
		t.Errorf("Save in two sectors: %v", e)
	}
	if _, _, e := Load(p, none, 5); e != 121 {
		t.Errorf("Load of a HOLE: %v", e)
	}
	if _, _, e := Load(p, api.Ptr{At: 9, Birth: 1}, 0); e != 121 {
		t.Errorf("Load of no length: %v", e)
	}
	if _, e := Save(p, []byte("hi"), []int{9}); e != 72 {
		t.Errorf("Save in a free sector: %v", e)
	}
	m.Take(9)
	q := saves(t, p, []byte("hi"), []int{9})
	d.Rot(9, api.Sector{9})
	if _, _, e := Load(p, q, 2); e != 91 {
		t.Errorf("Load of what has rotted: %v", e)
	}
	dies(t, d)
	if _, _, e := Load(p, q, 2); e != 42 {
		t.Errorf("Load without power: %v", e)
	}
	if _, e := Save(p, []byte("hi"), []int{9}); e != 42 {
		t.Errorf("Save without power: %v", e)
	}
	small := pile.New(vdev.New(8), m, 1, 0)
	if _, e := Save(small, []byte("hi"), []int{9}); e != 41 {
		t.Errorf("Save in a sector that isn't there: %v", e)
	}
}

// The chapter's example.
func TestExample(t *testing.T) {
	if n := Need(300); n != 4 {
		t.Fatalf("Need of 300: %v", n)
	}
	p, d, _ := made(100)
	q, at := kept(t, p, text(300))
	if d.Pending() != 4 || q.At != at[3] {
		t.Errorf("%v writes, %v", d.Pending(), q)
	}
	l := loads(t, "300 bytes", p, q, text(300))
	if len(l) != 4 || l[0] != q {
		t.Errorf("%v, not %v and three", l, q)
	}
}

// P12.1: known ones, at the edges of blocks, NODES and LEVELS.
func TestKnownNeeds(t *testing.T) {
	for _, c := range [][2]int{
		{1, 1}, {127, 1}, {128, 1}, {129, 3}, {256, 3}, {257, 4}, {300, 4}, {384, 4}, {385, 5},
		{7 * 128, 8}, {7*128 + 1, 9}, {8 * 128, 9}, {8*128 + 1, 12}, {9 * 128, 12}, {9*128 + 1, 13},
		{16 * 128, 19}, {16*128 + 1, 21}, {63 * 128, 72}, {63*128 + 1, 73}, {64 * 128, 73}, {64*128 + 1, 65 + 9 + 2 + 1}, {65 * 128, 77},
		{128 * 128, 128 + 16 + 2 + 1}, {128*128 + 1, 129 + 17 + 3 + 1},
		{504 * 128, 504 + 63 + 8 + 1}, {511 * 128, 511 + 64 + 8 + 1}, {511*128 + 1, 585}, {65534, 585}, {65535, 585},
	} {
		if n := Need(c[0]); n != c[1] {
			t.Errorf("Need of %v: %v, not %v", c[0], n, c[1])
		}
	}
}

// P12.1: of all lengths, against what is counted one by one.
func TestNeed(t *testing.T) {
	for n := -70000; n <= 140000; n++ {
		if k := Need(n); k != plainNeed(n) {
			t.Fatalf("Need of %v: %v, not %v", n, k, plainNeed(n))
		}
	}
}

// P12.1: lengths that can't be Need nothing.
func TestNeedOfNoLength(t *testing.T) {
	for _, n := range noLengths {
		if k := Need(n); k != 0 {
			t.Errorf("Need of %v: %v", n, k)
		}
	}
}

// P12.2, P12.3: of all lengths at the edges: the sectors' bytes, each at the next one of at, the writes' order, the pointer to the last one, and what Load tells of it.
func TestSaveAndLoad(t *testing.T) {
	levels := map[int]int{}
	for _, n := range lengths {
		for _, turned := range []bool{false, true} {
			p, d, m := made(1024)
			p.Next()
			at := takes(t, p, plainNeed(n))
			if turned {
				slices.Reverse(at)
			}
			b := text(n)
			taken := m.Taken()
			sectors, pointers := wantedLevels(b, at, 2)
			all := slices.Concat(sectors...)
			q, e := Save(p, b, at)
			if want := pointers[len(pointers)-1][0]; q != want || q.At != at[len(at)-1] || e != api.OK {
				t.Errorf("%v bytes: %v %v, not %v", n, q, e, want)
			}
			for i, s := range all {
				reads(t, "saved", d, at[i], s)
			}
			if d.Pending() != len(at) || len(all) != len(at) {
				t.Errorf("%v bytes: %v were written, not %v", n, d.Pending(), len(at))
			}
			if !slices.Equal(m.Taken(), taken) || len(m.Waiting()) != 0 || p.Stamp() != 2 || p.Base() != 0 {
				t.Errorf("%v bytes: %v are taken, not %v; stamp %v, base %v", n, m.Taken(), taken, p.Stamp(), p.Base())
			}
			pending := d.Pending()
			if l := loads(t, "saved", p, q, b); !slices.Equal(l, fromTheRoot(pointers)) {
				t.Errorf("%v bytes: %v, not %v", n, l, fromTheRoot(pointers))
			}
			if d.Pending() != pending || !slices.Equal(m.Taken(), taken) {
				t.Errorf("%v bytes: Load did something", n)
			}
			levels[len(pointers)]++
		}
	}
	for n := 1; n <= 4; n++ {
		if levels[n] < 4 {
			t.Errorf("%v texts had %v LEVELS", levels[n], n)
		}
	}
}

// P12.2, P12.3: all lengths from 1 to three NODES and some, one by one.
func TestAllSmallLengths(t *testing.T) {
	p, _, _ := made(64)
	at := takes(t, p, 40)
	for n := 1; n <= 25*128; n++ {
		_, pointers := wantedLevels(text(n), at, 1)
		q, e := Save(p, text(n), at[:plainNeed(n)])
		if q != pointers[len(pointers)-1][0] || e != api.OK {
			t.Fatalf("%v bytes: %v %v", n, q, e)
		}
		if l := loads(t, "a length", p, q, text(n)); !slices.Equal(l, fromTheRoot(pointers)) || t.Failed() {
			t.Fatalf("%v bytes: %v, not %v", n, l, fromTheRoot(pointers))
		}
	}
}

// P12.2: the order of the writes: a sector's number among what is PENDING is its number in at.
func TestOrderOfWrites(t *testing.T) {
	for _, n := range []int{1, 128, 129, 300, 8*128 + 1, 64*128 + 1} {
		need := plainNeed(n)
		for k := range need {
			p, d, _ := made(200)
			at := takes(t, p, need)
			slices.Reverse(at)
			saves(t, p, text(n), at)
			keep := make([]bool, need)
			keep[k] = true
			d.Crash(keep...)
			sectors, _ := wantedLevels(text(n), at, 1)
			for i, s := range slices.Concat(sectors...) {
				if i != k {
					s = api.Sector{}
				}
				reads(t, "one write was kept", d, at[i], s)
			}
		}
	}
}

// P12.1, P12.2, P12.3: a text of zeros alone is a text, and its blocks no HOLES.
func TestZeros(t *testing.T) {
	for _, n := range []int{1, 127, 128, 129, 300, 1024, 1025, 8193, 65535} {
		p, d, _ := made(1024)
		q, at := kept(t, p, make([]byte, n))
		l := loads(t, "zeros", p, q, make([]byte, n))
		if len(l) != len(at) || slices.Contains(l, none) {
			t.Errorf("%v zeros: %v", n, l)
		}
		blocks := (n + 127) / 128
		for i, q := range l[len(l)-blocks:] {
			if q != to(at[i], 1, api.Sector{}) {
				t.Errorf("%v zeros, block %v: %v", n, i, q)
			}
		}
		if d.Pending() != len(at) {
			t.Errorf("%v zeros: %v were written", n, d.Pending())
		}
	}
}

// P12.2, P12.3: texts that begin or end with zeros, or have other bytes at one end alone, are had as they were saved.
func TestZerosAtTheEnds(t *testing.T) {
	for _, n := range []int{1, 3, 127, 128, 129, 256, 300, 1024, 1025} {
		for _, zeros := range [][2]int{{0, n}, {0, n - 1}, {1, n}, {n - 1, n}, {0, 1}, {n / 2, n}, {0, n / 2}} {
			p, _, _ := made(64)
			b := text(n)
			clear(b[min(zeros[0], zeros[1]):zeros[1]])
			q, _ := kept(t, p, b)
			loads(t, "zeros at an end", p, q, b)
		}
	}
}

// P12.2: lengths that can't be are refused ahead of all else, whatever sectors there are.
func TestSaveOfNoLength(t *testing.T) {
	for _, n := range []int{0, 65536, 65537, 65536 + 300, 1 << 17, 1<<17 + 1, 1 << 20} {
		p, d, _ := made(1024)
		at := takes(t, p, 1000)
		check := func(why string) {
			t.Helper()
			for _, k := range []int{0, 1, 2, 4, 584, 585, 586, (n + 127) / 128, 512 + 64 + 8 + 1, 513 + 65 + 9 + 2 + 1} {
				undone(t, why, p, make([]byte, n), at[:min(k, len(at))], api.ErrBlob)
			}
			undone(t, why, p, make([]byte, n), nil, api.ErrBlob)
			undone(t, why, p, make([]byte, n), []int{-1}, api.ErrBlob)
		}
		check("power")
		dies(t, d)
		check("no power")
	}
	p, _, _ := made(64)
	undone(t, "nil", p, nil, nil, api.ErrBlob)
	undone(t, "empty", p, []byte{}, []int{}, api.ErrBlob)
	undone(t, "spare room alone", p, make([]byte, 0, 9), make([]int, 0, 9), api.ErrBlob)
}

// P12.2: other than just as many sectors as it Needs are refused, ahead of all that is wrong with the sectors and the device.
func TestSaveInOtherThanItsNeed(t *testing.T) {
	for _, n := range lengths {
		need := plainNeed(n)
		p, d, _ := made(1024)
		at := takes(t, p, 1000)
		check := func(why string, at []int) {
			t.Helper()
			for _, k := range []int{0, 1, need - 1, need + 1, need - 2, need + 2, need / 2, 2 * need, (n + 127) / 128, 585, 1000} {
				if k >= 0 && k <= len(at) && k != need {
					undone(t, why, p, text(n), at[:k], api.ErrBlob)
				}
			}
			undone(t, why, p, text(n), nil, api.ErrBlob)
			undone(t, why, p, text(n), at[:0], api.ErrBlob)
		}
		check("taken", at)
		check("not taken", make([]int, 1000))
		check("no sectors", slices.Repeat([]int{math.MinInt}, 1000))
		dies(t, d)
		check("no power", at)
	}
}

// P12.2: a sector that stands in one LEVEL several times: the later block over the earlier one; alike they are both had.
func TestASectorTwiceInALevel(t *testing.T) {
	for _, c := range []struct {
		at   []int
		i, j int // the blocks that have one sector
	}{
		{[]int{9, 9, 10, 11}, 0, 1}, {[]int{9, 10, 9, 11}, 0, 2}, {[]int{9, 10, 10, 11}, 1, 2},
	} {
		for _, alike := range []bool{true, false} {
			p, d, _ := made(64)
			row(t, p, 4, 60)
			b := text(384)
			if alike {
				copy(b[c.j*128:], b[c.i*128:c.i*128+128])
			}
			_, pointers := wantedLevels(b, c.at, 1)
			q := saves(t, p, b, c.at)
			if q != pointers[1][0] || d.Pending() != 4 {
				t.Errorf("%v: %v, not %v; %v writes", c.at, q, pointers[1][0], d.Pending())
			}
			reads(t, "the later one", d, c.at[c.j], filled(b[c.j*128:c.j*128+128]))
			if !alike {
				refuses(t, "the earlier one is gone", p, q, 384, api.ErrCorrupt)
				continue
			}
			if l := loads(t, "both", p, q, b); !slices.Equal(l, fromTheRoot(pointers)) || l[c.i+1] != l[c.j+1] {
				t.Errorf("%v: %v, not %v", c.at, l, fromTheRoot(pointers))
			}
			d.Crash(true, true, true, true)
			loads(t, "behind a crash", p, q, b)
		}
	}
}

// P12.2: a sector that stands in several LEVELS: the later one over the earlier one, and the root over all.
func TestASectorInTwoLevels(t *testing.T) {
	for _, n := range []int{129, 300, 1024, 1025, 8193} {
		need := plainNeed(n)
		blocks := (n + 127) / 128
		for i := range need {
			for _, j := range []int{blocks, need - 1} {
				if i >= j || i >= blocks && j == blocks {
					continue
				}
				p, d, _ := made(200)
				at := takes(t, p, need)
				at[i] = at[j]
				sectors, pointers := wantedLevels(text(n), at, 1)
				all := slices.Concat(sectors...)
				q := saves(t, p, text(n), at)
				if q != pointers[len(pointers)-1][0] || d.Pending() != need {
					t.Errorf("%v bytes, %v as %v: %v; %v writes", n, i, j, q, d.Pending())
				}
				reads(t, "the later one", d, at[j], all[j])
				refuses(t, "the earlier one is gone", p, q, n, api.ErrCorrupt)
			}
		}
		p, d, _ := made(200)
		row(t, p, 7, 1)
		at := slices.Repeat([]int{7}, need)
		sectors, pointers := wantedLevels(text(n), at, 1)
		q := saves(t, p, text(n), at)
		if q != pointers[len(pointers)-1][0] || q.At != 7 || d.Pending() != need {
			t.Errorf("%v bytes, one sector: %v; %v writes", n, q, d.Pending())
		}
		reads(t, "the root", d, 7, sectors[len(sectors)-1][0])
		refuses(t, "all but the root is gone", p, q, n, api.ErrCorrupt)
		if d.Crash(true); d.Stable(7) != sectors[0][0] {
			t.Errorf("the first write was no block: %v", d.Stable(7))
		}
	}
}

// P12.2: a text of blocks that are alike, all in one sector, and above it NODES that are alike, all in one: they are had as often as they stand.
func TestAlikeInOneSector(t *testing.T) {
	p, d, _ := made(64)
	row(t, p, 4, 60)
	b := bytes.Repeat([]byte{3}, 64*128)
	at := slices.Concat(slices.Repeat([]int{20}, 64), slices.Repeat([]int{21}, 8), []int{22})
	_, pointers := wantedLevels(b, at, 1)
	q := saves(t, p, b, at)
	if l := loads(t, "alike", p, q, b); !slices.Equal(l, fromTheRoot(pointers)) || len(l) != 73 || l[1] != l[8] || l[9] != l[72] {
		t.Errorf("%v, not %v", l, fromTheRoot(pointers))
	}
	if d.Pending() != 73 {
		t.Errorf("%v writes", d.Pending())
	}
}

// P12.2: a sector that can't be written, first, in the midst and last: its error, a HOLE, and what was written ahead of it stays so, behind it nothing.
func TestSaveInAWrongSector(t *testing.T) {
	for _, n := range []int{1, 128, 129, 300, 1024, 1025, 8193} {
		need := plainNeed(n)
		for k := range need {
			if need > 20 && k > 3 && k < need-4 && k%9 != 0 && k != 64 {
				continue
			}
			for wrong, want := range map[int]api.Errno{
				0: 72, 3: 72, -1: 72, 4: 72, 5: 72, 1024: 72, 1025: 72, 1 << 20: 72, math.MaxInt: 72, math.MinInt: 72, -4: 72,
				1<<32 + 110: 72, 110 - 1<<32: 72, 150: 72, 149: 41, 148: 41,
			} {
				d, m := vdev.New(148), slab.New(1024)
				p := pile.New(d, m, 1, 0)
				row(t, p, 148, 2) // the device ends ahead of them
				at := row(t, p, 10, need)
				was := at[k]
				at[k] = wrong
				m.Take(5)
				m.Later(5) // it isn't free, but it isn't taken, either
				unsaved(t, "a wrong sector", p, text(n), at, want)
				if d.Pending() != k {
					t.Errorf("%v bytes, sector %v is %v: %v were written, not %v", n, k, wrong, d.Pending(), k)
				}
				sectors, _ := wantedLevels(text(n), at, 1)
				for i, s := range slices.Concat(sectors...) {
					if i >= k {
						s = api.Sector{}
					}
					reads(t, "ahead of it", d, 10+i, s)
				}
				at[k] = was
				loads(t, "behind it", p, saves(t, p, text(n), at), text(n))
			}
		}
	}
}

// P12.2: where several sectors can't be written, or the power is gone: the first error in their order, and of one sector layer 9's order.
func TestTheFirstErrorOfSave(t *testing.T) {
	d, m := vdev.New(20), slab.New(64)
	p := pile.New(d, m, 1, 0)
	row(t, p, 4, 56)
	const gone, free = 30, 62 // not on the device; not taken
	for _, c := range []struct {
		at   []int
		want api.Errno
	}{
		{[]int{gone, free, 5, 6}, api.ErrSector}, {[]int{free, gone, 5, 6}, api.ErrSlab},
		{[]int{5, gone, free, 6}, api.ErrSector}, {[]int{5, free, gone, 6}, api.ErrSlab},
		{[]int{5, 6, gone, free}, api.ErrSector}, {[]int{5, 6, free, gone}, api.ErrSlab},
		{[]int{gone, 5, 6, free}, api.ErrSector}, {[]int{free, 5, 6, gone}, api.ErrSlab},
	} {
		d.Break(-1)
		unsaved(t, "two", p, text(300), c.at, c.want)
		dies(t, d)
		first := c.want // of a sector that is there, and is reached ahead of the others, the power
		if c.at[0] == 5 {
			first = api.ErrPower
		}
		undone(t, "without power", p, text(300), c.at, first)
		d.Crash()
	}
	for n := range 5 {
		d.Break(n)
		want := []api.Errno{api.ErrPower, api.ErrPower, api.ErrSlab, api.ErrSlab, api.ErrSlab}[n]
		unsaved(t, "power for some", p, text(300), []int{5, 6, free, 7}, want)
		if d.Pending() != min(n, 2) || d.Dead() != (n < 2) {
			t.Errorf("power for %v: %v writes, dead %v", n, d.Pending(), d.Dead())
		}
		d.Crash()
	}
}

// P12.2: the power goes at each step: ErrPower and a HOLE, what was written ahead stays so; behind the Crash it is saved again.
func TestBreakAtEachStepOfSave(t *testing.T) {
	for _, n := range []int{1, 128, 129, 300, 1024, 1025, 8193} {
		need := plainNeed(n)
		for k := range need + 1 {
			for _, keep := range []bool{false, true} {
				p, d, m := made(200)
				at := takes(t, p, need)
				taken := m.Taken()
				sectors, pointers := wantedLevels(text(n), at, 1)
				all := slices.Concat(sectors...)
				d.Break(k)
				if k == need {
					q := saves(t, p, text(n), at)
					loads(t, "power for just so many", p, q, text(n))
					continue
				}
				unsaved(t, "no power", p, text(n), at, api.ErrPower)
				undone(t, "no power", p, text(n), at, api.ErrPower)
				if d.Pending() != k || !d.Dead() || !slices.Equal(m.Taken(), taken) {
					t.Errorf("%v bytes, power for %v: %v were written; %v are taken", n, k, d.Pending(), m.Taken())
				}
				d.Crash(slices.Repeat([]bool{keep}, k)...)
				for i, s := range all {
					if i >= k || !keep {
						s = api.Sector{}
					}
					reads(t, "behind the crash", d, at[i], s)
				}
				refuses(t, "half of it", p, pointers[len(pointers)-1][0], n, api.ErrCorrupt)
				loads(t, "saved again", p, saves(t, p, text(n), at), text(n))
			}
		}
	}
}

// P12.2, P12.3: what wasn't flushed may be gone with a crash, sector by sector: then it can't be had; what was flushed can.
func TestCrashBehindSave(t *testing.T) {
	for _, n := range []int{100, 300, 1025} {
		need := plainNeed(n)
		for lost := range need + 1 {
			p, d, _ := made(64)
			q, _ := kept(t, p, text(n))
			keep := slices.Repeat([]bool{true}, need)
			if lost < need {
				keep[lost] = false
			}
			d.Crash(keep...)
			if lost < need {
				refuses(t, "one is lost", p, q, n, api.ErrCorrupt)
			} else {
				loads(t, "none is lost", p, q, text(n))
			}
		}
		p, d, _ := made(64)
		q, at := kept(t, p, text(n))
		stable(t, d)
		saves(t, p, make([]byte, n), at)
		refuses(t, "written over", p, q, n, api.ErrCorrupt)
		d.Crash()
		loads(t, "flushed", p, q, text(n))
	}
}

// P12.3: Load asks the device for Reads alone: a Break that hasn't come yet doesn't matter; without power nothing is had; behind the Crash all again.
func TestLoadBehindABreak(t *testing.T) {
	for _, n := range []int{1, 128, 300, 1025, 8193} {
		p, d, _ := made(200)
		q, _ := kept(t, p, text(n))
		stable(t, d)
		for k := range 4 {
			d.Break(k)
			loads(t, "ahead of the end", p, q, text(n))
			if d.Dead() || d.Pending() != 0 {
				t.Errorf("%v bytes: Load wrote", n)
			}
		}
		dies(t, d)
		refuses(t, "no power", p, q, n, api.ErrPower)
		refuses(t, "no power, another sum", p, api.Ptr{At: q.At, Birth: 1, Sum: q.Sum + 1}, n, api.ErrPower)
		refuses(t, "no power, the ring", p, api.Ptr{At: 0, Birth: 1}, n, api.ErrPower)
		refuses(t, "no power, no sector", p, api.Ptr{At: 200, Birth: 1, Sum: q.Sum}, n, api.ErrCorrupt)
		refuses(t, "no power, no sector", p, api.Ptr{At: -1, Birth: 1, Sum: q.Sum}, n, api.ErrCorrupt)
		refuses(t, "no power, a HOLE", p, none, n, api.ErrBlob)
		for _, k := range noLengths {
			refuses(t, "no power, no length", p, q, k, api.ErrBlob)
		}
		d.Crash()
		loads(t, "behind the crash", p, q, text(n))
	}
}

// P12.3: lengths that can't be, and a HOLE: ErrBlob, ahead of all else, and nothing is read.
func TestLoadOfNoLength(t *testing.T) {
	p, d, _ := made(200)
	q, _ := kept(t, p, text(300))
	was := d.Ops()
	for _, n := range noLengths {
		for _, root := range []api.Ptr{q, none, {At: -1, Birth: 1}, {At: 9, Birth: 9, Sum: 9}, {Sum: 1}} {
			refuses(t, "no length", p, root, n, api.ErrBlob)
		}
	}
	for _, n := range lengths {
		refuses(t, "a HOLE", p, none, n, api.ErrBlob)
	}
	if d.Ops() != was {
		t.Errorf("%v Ops", d.Ops()-was)
	}
}

// P12.3: a HOLE is asked of the whole: zeros in some parts make none, and such a root is read.
func TestRootsThatAreNoHoles(t *testing.T) {
	p, d, _ := made(64)
	zeros := total(api.Sector{})
	for _, root := range []api.Ptr{{Sum: zeros}, {At: 9, Sum: zeros}, {Birth: 1, Sum: zeros}, {At: 4, Birth: 1, Sum: zeros}, {At: 63, Birth: math.MaxUint64, Sum: zeros}} {
		if l := loads(t, "zeros", p, root, make([]byte, 100)); !slices.Equal(l, []api.Ptr{root}) {
			t.Errorf("%v: %v", root, l)
		}
		refuses(t, "zeros are no NODE of two", p, root, 129, api.ErrCorrupt)
		refuses(t, "zeros are no NODE of two", p, root, 1025, api.ErrCorrupt)
	}
	for _, root := range []api.Ptr{{Birth: 1}, {At: 9}, {At: 9, Birth: 1}, {Sum: 1}, {At: 63, Birth: math.MaxUint64, Sum: zeros + 1}} {
		for _, n := range lengths {
			refuses(t, "another sum", p, root, n, api.ErrCorrupt)
		}
	}
	// A root that isn't Right, over sectors that are.
	blocks := []api.Ptr{rots(t, d, 20, 1, filled(text(128))), rots(t, d, 21, 2, filled([]byte("b")))}
	for _, at := range []int{0, 3, 4, 63} {
		for _, birth := range []uint64{0, 1, api.MaxStamp, api.MaxStamp + 1, math.MaxUint64} {
			root := rots(t, d, at, birth, laid(blocks...))
			if l := loads(t, "any root", p, root, append(text(128), 'b')); !slices.Equal(l, append([]api.Ptr{root}, blocks...)) {
				t.Errorf("%v: %v", root, l)
			}
		}
	}
}

// P12.3: roots in sectors that the device doesn't have.
func TestRootsThatAreNotThere(t *testing.T) {
	p, _, _ := made(64)
	for _, at := range []int{-1, 64, 65, 1023, 1024, 1 << 32, 1<<32 + 9, -1 << 32, 1 << 62, math.MaxInt, math.MinInt, math.MinInt + 9} {
		for _, n := range []int{1, 128, 129, 300, 1025, 8193, 65535} {
			for _, sum := range []uint32{0, total(api.Sector{}), math.MaxUint32} {
				refuses(t, "not there", p, api.Ptr{At: at, Birth: 1, Sum: sum}, n, api.ErrCorrupt)
			}
		}
	}
}

// P12.3: one byte fewer than was saved: what stands behind isn't zeros, or a NODE has one pointer too many; and one more: a zero more, if the block has room.
func TestLoadOfOneByteFewerAndMore(t *testing.T) {
	for _, n := range lengths {
		p, _, _ := made(1024)
		q, _ := kept(t, p, text(n))
		switch n {
		case 1:
			refuses(t, "one fewer", p, q, 0, api.ErrBlob)
		case 129: // what is left has no NODE: the one that is there is had as text
			s, _ := p.Dev().Read(q.At)
			loads(t, "one fewer", p, q, s[:])
		default:
			refuses(t, "one fewer", p, q, n-1, api.ErrCorrupt)
		}
		if n == 65535 {
			refuses(t, "one more", p, q, n+1, api.ErrBlob)
			continue
		}
		if n%128 == 0 {
			refuses(t, "one more", p, q, n+1, api.ErrCorrupt)
			continue
		}
		more := append(text(n), 0)
		loads(t, "one more", p, q, more)
		full := append(text(n), make([]byte, 127-(n-1)%128)...)
		full = full[:min(len(full), 65535)]
		loads(t, "up to the block's end", p, q, full)
		if len(full) < 65535 {
			refuses(t, "behind the block's end", p, q, len(full)+1, api.ErrCorrupt)
		}
	}
}

// P12.3: a text that ends in zeros may be had without them, as far as its blocks are as many.
func TestLoadWithoutZeros(t *testing.T) {
	for _, c := range [][2]int{{100, 3}, {128, 127}, {128, 2}, {256, 130}, {300, 257}, {1024, 900}, {1025 + 127, 1025}, {65535, 511*128 + 1}} {
		p, _, _ := made(1024)
		b := text(c[0])
		clear(b[c[1]:])
		q, _ := kept(t, p, b)
		loads(t, "without zeros", p, q, b[:c[1]])
		loads(t, "with zeros", p, q, b)
		refuses(t, "without more than zeros", p, q, c[1]-1, api.ErrCorrupt)
	}
}

// P12.3: of each length that was saved no length of another number of sectors is had, where its bytes aren't some: on other LEVELS and on as many.
func TestLoadOfOtherLengths(t *testing.T) {
	ends := []int{128, 129, 256, 257, 300, 384, 1023, 1024, 1025, 1152, 2048, 2049, 8191, 8192, 8193, 8320, 16384, 16385, 65409, 65535}
	for _, n := range ends {
		p, _, _ := made(1024)
		q, _ := kept(t, p, text(n))
		_, pointers := wantedLevels(text(n), make([]int, plainNeed(n)), 1)
		for _, k := range ends {
			_, others := wantedLevels(text(k), make([]int, plainNeed(k)), 1)
			sameBlocks := len(pointers[0]) == len(others[0])
			if k >= n && sameBlocks || len(others) < len(pointers) {
				continue // zeros more; NODES as text are asked below
			}
			refuses(t, "another length", p, q, k, api.ErrCorrupt)
		}
	}
}

// P12.3: on fewer LEVELS the NODES' bytes are the text, if the NODES above them have as many pointers, and behind it there are zeros: nothing tells them apart.
func TestLoadOfNodesAsText(t *testing.T) {
	p, d, _ := made(200)
	q, _ := kept(t, p, text(300)) // three blocks, one NODE
	s, _ := d.Read(q.At)
	loads(t, "a NODE", p, q, s[:128])
	for n := 1; n < 128; n++ {
		if s[n] != 0 {
			refuses(t, "a NODE that goes on", p, q, n, api.ErrCorrupt)
		}
	}
	if l := loads(t, "a NODE of three", p, q, s[:48]); !slices.Equal(l, []api.Ptr{q}) {
		t.Errorf("a NODE of three: %v", l)
	}
	q, at := kept(t, p, text(9*128)) // nine blocks, two NODES, one
	var b []byte
	for _, i := range at[9:11] {
		s, _ := d.Read(i)
		b = append(b, s[:]...)
	}
	s, _ = d.Read(q.At)
	if l := loads(t, "two NODES", p, q, b); !slices.Equal(l, []api.Ptr{q, told(s)[0], told(s)[1]}) {
		t.Errorf("two NODES: %v", l)
	}
	loads(t, "two NODES, the second of one pointer", p, q, b[:128+16])
	refuses(t, "three blocks of two", p, q, 257, api.ErrCorrupt)
	loads(t, "one block, of which two pointers fill a part", p, q, s[:127])
	loads(t, "one block, of which two pointers fill a part", p, q, s[:32])
	if s[31] != 0 {
		refuses(t, "a part of two pointers", p, q, 31, api.ErrCorrupt)
	}
	// And a text that is a NODE's bytes is had as what hangs on these.
	below := rots(t, d, 150, 1, filled(text(128)))
	other := rots(t, d, 151, 1, filled([]byte("x")))
	made := laid(below, other)
	q, _ = kept(t, p, made[:])
	if l := loads(t, "a text that is a NODE", p, q, append(text(128), 'x')); !slices.Equal(l, []api.Ptr{q, below, other}) {
		t.Errorf("a text that is a NODE: %v", l)
	}
}

// tower is LEVELS that are laid by hand: the blocks of a text, and NODES above them, the last LEVEL's one the root.
type tower struct {
	d      *vdev.Dev
	levels [][]api.Sector
}

// lay lays the sectors from 4 on, each NODE with the pointers to those below it as they are; change may make a sector another one ahead of that.
func (w tower) lay(t *testing.T, change func(level, i int, s api.Sector) api.Sector) api.Ptr {
	t.Helper()
	at := 4
	var below []api.Ptr
	for level, sectors := range w.levels {
		var l []api.Ptr
		for i, s := range sectors {
			if level > 0 {
				s = laid(below[8*i : min(8*i+8, len(below))]...)
			}
			l = append(l, rots(t, w.d, at, 1, change(level, i, s)))
			at++
		}
		below = l
	}
	return below[0]
}

// stood is a tower of a text's length.
func stood(n int) (tower, *pile.Pile) {
	p, d, _ := made(1024)
	sectors, _ := wantedLevels(text(n), make([]int, plainNeed(n)), 1)
	return tower{d: d, levels: sectors}, p
}

// asIs changes nothing.
func asIs(level, i int, s api.Sector) api.Sector { return s }

// only changes one sector, as told of its pointers.
func only(level, i int, change func(l []api.Ptr) []api.Ptr) func(int, int, api.Sector) api.Sector {
	return func(k, j int, s api.Sector) api.Sector {
		if k != level || j != i {
			return s
		}
		l := told(s)
		return laid(change(l[:])...)
	}
}

// towers are lengths with NODES that are full and that aren't, on two LEVELS to four.
var towers = []int{129, 300, 7 * 128, 1024, 1025, 17 * 128, 63 * 128, 8192, 8193, 73 * 128, 65535}

// P12.3: what was laid by hand is had; and in each NODE other than just as many pointers as its LEVEL wants are refused: fewer, more, none, and a HOLE ahead of one.
func TestNodesOfOtherNumbers(t *testing.T) {
	for _, n := range towers {
		w, p := stood(n)
		root := w.lay(t, asIs)
		loads(t, "laid by hand", p, root, text(n))
		for level := 1; level < len(w.levels); level++ {
			nodes, below := len(w.levels[level]), len(w.levels[level-1])
			for i := range nodes {
				if i > 2 && i < nodes-3 && i != 31 {
					continue
				}
				wanted := min(8, below-8*i)
				spare := rots(t, w.d, 1000, 1, filled(text(128)))
				for why, change := range map[string]func(l []api.Ptr) []api.Ptr{
					"one fewer":       func(l []api.Ptr) []api.Ptr { l[wanted-1] = none; return l },
					"none":            func(l []api.Ptr) []api.Ptr { return nil },
					"one more":        func(l []api.Ptr) []api.Ptr { return append(l[:wanted], spare) },
					"one at the end":  func(l []api.Ptr) []api.Ptr { return append(l[:7], spare) },
					"as many as fit":  func(l []api.Ptr) []api.Ptr { return append(l[:wanted], slices.Repeat([]api.Ptr{spare}, 8-wanted)...) },
					"a HOLE first":    func(l []api.Ptr) []api.Ptr { return append([]api.Ptr{none}, l[:wanted]...) },
					"the first one":   func(l []api.Ptr) []api.Ptr { l[0] = none; return l },
					"one in between":  func(l []api.Ptr) []api.Ptr { l[wanted/2] = none; return l },
					"a HOLE between":  func(l []api.Ptr) []api.Ptr { return slices.Insert(slices.Clone(l[:wanted]), wanted/2, none) },
					"a HOLE and last": func(l []api.Ptr) []api.Ptr { return append(append(slices.Clone(l[:wanted-1]), none), l[wanted-1]) },
				} {
					if wanted == 8 && (why == "one more" || why == "one at the end" || why == "as many as fit" || why == "a HOLE first" || why == "a HOLE between" || why == "a HOLE and last") {
						continue // there is no room for it
					}
					root := w.lay(t, only(level, i, change))
					if t.Failed() {
						t.Fatalf("%v bytes, LEVEL %v, NODE %v: %v", n, level, i, why)
					}
					refuses(t, why, p, root, n, api.ErrCorrupt)
				}
			}
		}
		loads(t, "laid again", p, w.lay(t, asIs), text(n))
	}
}

// P12.3: a sector that is the Bytes of no eight pointers, whatever is wrong with it, in its place or behind those that are wanted.
func TestNodesThatAreNone(t *testing.T) {
	for _, n := range towers {
		w, p := stood(n)
		for level := 1; level < len(w.levels); level++ {
			for _, i := range []int{0, len(w.levels[level]) - 1} {
				wanted := min(8, len(w.levels[level-1])-8*i)
				for _, wrong := range []api.Ptr{{At: 3, Birth: 1}, {At: 0, Birth: 1}, {At: 4}, {Sum: 1}, {At: 1024, Birth: 1}, {At: 4, Birth: api.MaxStamp + 1}, {At: 4, Birth: math.MaxUint64}, {At: -1, Birth: 1}} {
					for _, k := range []int{0, wanted - 1, wanted, 7} {
						if k > 7 {
							continue
						}
						root := w.lay(t, only(level, i, func(l []api.Ptr) []api.Ptr {
							q := l[k]
							l[k] = wrong
							if wrong.Sum == 0 {
								l[k].Sum = q.Sum
							}
							return l
						}))
						refuses(t, "a NODE that is none", p, root, n, api.ErrCorrupt)
					}
				}
				for _, s := range []api.Sector{filled(text(128)), {127: 1}, {0: 1}, filled(bytes.Repeat([]byte{255}, 128))} {
					root := w.lay(t, func(k, j int, was api.Sector) api.Sector {
						if k == level && j == i {
							return s
						}
						return was
					})
					refuses(t, "no NODE", p, root, n, api.ErrCorrupt)
				}
			}
		}
	}
}

// P12.3: pointers of a NODE that can't be had: to a sector that isn't there, of another sum.
func TestPointersThatLeadNowhere(t *testing.T) {
	for _, n := range []int{129, 300, 1024, 1025, 8193} {
		p, d, _ := made(200)
		sectors, _ := wantedLevels(text(n), make([]int, plainNeed(n)), 1)
		w := tower{d: d, levels: sectors}
		for level := 1; level < len(w.levels); level++ {
			for i := range w.levels[level] {
				wanted := min(8, len(w.levels[level-1])-8*i)
				for _, k := range []int{0, wanted / 2, wanted - 1} {
					for why, change := range map[string]func(q *api.Ptr){
						"no sector":            func(q *api.Ptr) { q.At = 200 },
						"the greatest number":  func(q *api.Ptr) { q.At = 1023 },
						"another sum":          func(q *api.Ptr) { q.Sum++ },
						"a sum of other bits":  func(q *api.Ptr) { q.Sum ^= 1 << 31 },
						"a sector that is new": func(q *api.Ptr) { q.At = 199 },
					} {
						root := w.lay(t, only(level, i, func(l []api.Ptr) []api.Ptr { change(&l[k]); return l }))
						refuses(t, why, p, root, n, api.ErrCorrupt)
					}
					// A birth isn't looked at.
					root := w.lay(t, only(level, i, func(l []api.Ptr) []api.Ptr { l[k].Birth = api.MaxStamp; return l }))
					l := loads(t, "another birth", p, root, text(n))
					if count := len(slices.DeleteFunc(l, func(q api.Ptr) bool { return q.Birth == 1 })); count != 1 {
						t.Errorf("%v bytes, LEVEL %v: %v of another birth", n, level, count)
					}
				}
			}
		}
	}
}

// P12.3: anything but zeros behind the text, just behind it, in between and at the sector's end.
func TestBehindTheText(t *testing.T) {
	for _, n := range []int{1, 2, 63, 126, 127, 129, 255, 300, 1023, 1025, 8065, 8193, 65535} {
		w, p := stood(n)
		last, end := len(w.levels[0])-1, (n-1)%128+1
		for _, i := range []int{end, (end + 128) / 2, 127} {
			for _, x := range []byte{1, 128, 255} {
				root := w.lay(t, func(level, j int, s api.Sector) api.Sector {
					if level == 0 && j == last {
						s[i] = x
					}
					return s
				})
				refuses(t, "behind the text", p, root, n, api.ErrCorrupt)
			}
		}
		root := w.lay(t, func(level, j int, s api.Sector) api.Sector {
			if level == 0 && j == last {
				s[end], s[127] = 1, 255 // together they come to nothing
			}
			return s
		})
		refuses(t, "two behind the text", p, root, n, api.ErrCorrupt)
		loads(t, "nothing behind the text", p, w.lay(t, asIs), text(n))
	}
}

// P12.3: of a full last block nothing is behind the text.
func TestNothingBehindTheText(t *testing.T) {
	for _, n := range []int{128, 256, 1024, 1152, 8192, 511 * 128} {
		w, p := stood(n)
		loads(t, "a full block", p, w.lay(t, asIs), text(n))
		b := text(n)
		b[n-1] = 0
		q, _ := kept(t, p, b)
		loads(t, "a full block that ends in a zero", p, q, b)
		refuses(t, "a byte more", p, q, n+1, api.ErrCorrupt)
		loads(t, "a byte fewer", p, q, b[:n-1])
	}
}

// P12.3: one sector overwritten, in each LEVEL, by one bit, by zeros, by another one of the text's: all is refused; with its bytes again all is had.
func TestRotInEachLevel(t *testing.T) {
	for _, n := range []int{1, 100, 128, 129, 300, 1025, 8193} {
		p, d, _ := made(200)
		q, at := kept(t, p, text(n))
		stable(t, d)
		for k, i := range at {
			s := d.Stable(i)
			other := d.Stable(at[(k+1)%len(at)])
			bit, end := s, s
			bit[k%128] ^= 1 << (k % 8)
			end[127] ^= 128
			for _, x := range []api.Sector{{}, bit, end, other, {0: 9}} {
				if x == s {
					continue // a text of one sector has no other one
				}
				d.Rot(i, x)
				refuses(t, "rotten", p, q, n, api.ErrCorrupt)
			}
			d.Rot(i, s)
			loads(t, "its bytes again", p, q, text(n))
		}
	}
	p, d, _ := made(1024)
	q, at := kept(t, p, text(65535))
	for _, k := range []int{0, 1, 255, 511, 512, 540, 575, 576, 580, 583, 584} {
		s, _ := d.Read(at[k])
		x := s
		x[k%128] ^= 4
		d.Rot(at[k], x)
		refuses(t, "rotten", p, q, 65535, api.ErrCorrupt)
		d.Rot(at[k], s)
	}
	loads(t, "its bytes again", p, q, text(65535))
}

// P12.2: a sector's birth is the Pile's stamp, at its ends too, whatever the base; what is saved at another stamp has another one.
func TestBirths(t *testing.T) {
	for _, c := range [][2]uint64{{1, 0}, {1, api.MaxStamp}, {2, 1}, {1 << 32, 0}, {api.MaxStamp - 1, 5}, {api.MaxStamp, 0}, {api.MaxStamp, api.MaxStamp}} {
		for _, n := range []int{100, 300, 1025, 8193} {
			p := pile.New(vdev.New(200), slab.New(200), c[0], c[1])
			q, at := kept(t, p, text(n))
			_, pointers := wantedLevels(text(n), at, c[0])
			if l := loads(t, "a stamp", p, q, text(n)); !slices.Equal(l, fromTheRoot(pointers)) {
				t.Errorf("stamp %v: %v, not %v", c[0], l, fromTheRoot(pointers))
			}
			if p.Stamp() != c[0] || p.Base() != c[1] {
				t.Errorf("stamp %v, base %v: %v %v", c[0], c[1], p.Stamp(), p.Base())
			}
		}
	}
	p, _, _ := made(64)
	q, at := kept(t, p, text(300))
	p.Next()
	x := saves(t, p, text(300), at)
	if x.Birth != 2 || x.At != q.At || x.Sum == q.Sum {
		t.Errorf("saved again: %v, and %v was", x, q)
	}
	refuses(t, "its NODE was written over", p, q, 300, api.ErrCorrupt)
	loads(t, "saved again", p, x, text(300))
}

// P12.2, P12.3: texts side by side, saved and had in turn, don't touch one another; the sectors of one that is dropped may be another's.
func TestSideBySide(t *testing.T) {
	p, _, m := made(1024)
	var roots []api.Ptr
	sizes := []int{300, 1, 128, 8193, 1025, 65535 / 4, 129, 1024}
	for _, n := range sizes {
		q, _ := kept(t, p, text(n))
		roots = append(roots, q)
	}
	for range 3 {
		var l []api.Ptr
		for i, n := range sizes {
			l = loads(t, "side by side", p, roots[i], text(n))
		}
		last := len(sizes) - 1
		for _, q := range l {
			if e := p.Drop(q); e != api.OK {
				t.Fatalf("Drop of %v: %v", q, e)
			}
		}
		roots[last], _ = kept(t, p, text(sizes[last]))
	}
	all := 0
	for _, n := range sizes {
		all += plainNeed(n)
	}
	if n := span.Count(m.Taken()); n != all {
		t.Errorf("%v are taken, not %v", n, all)
	}
}

// P12.2: what is handed in isn't changed, spare room included, and not kept: it may be written over behind the call.
func TestWhatIsHandedIn(t *testing.T) {
	for _, n := range []int{1, 100, 128, 300, 1025} {
		p, _, _ := made(64)
		need := plainNeed(n)
		room := bytes.Repeat([]byte{7}, n+400)
		sectors := append(append([]int{-5, -6}, takes(t, p, need)...), -7, -8)
		was := slices.Clone(sectors)
		b, at := room[10:10+n:n+300], sectors[2:2+need]
		q := saves(t, p, b, at)
		if !bytes.Equal(room, bytes.Repeat([]byte{7}, n+400)) || !slices.Equal(sectors, was) {
			t.Errorf("%v bytes: what was handed in has changed", n)
		}
		for i := range room {
			room[i] = 99
		}
		for i := range sectors {
			sectors[i] = 99
		}
		l := loads(t, "written over", p, q, bytes.Repeat([]byte{7}, n))
		if len(l) != need || l[0].At != was[1+need] {
			t.Errorf("%v bytes: %v", n, l)
		}
		stays := q
		q.At = 5
		loads(t, "a pointer written over", p, stays, bytes.Repeat([]byte{7}, n))
	}
}

// P12.2: a Save that fails doesn't change what is handed in, either.
func TestWhatIsHandedInToASaveThatFails(t *testing.T) {
	p, d, _ := made(64)
	at := takes(t, p, 12)
	b := text(1025)
	was := slices.Clone(at)
	for k := range 13 {
		d.Break(k)
		Save(p, b, at)
		d.Crash()
		Save(p, b, at[:k])
		if !bytes.Equal(b, text(1025)) || !slices.Equal(at, was) {
			t.Fatalf("power for %v: what was handed in has changed", k)
		}
	}
}

// P12.3: what came back is new memory, spare room too: the caller may write it over, and write on behind it.
func TestWhatCameBack(t *testing.T) {
	for _, n := range []int{1, 100, 127, 128, 300, 1025, 8193} {
		p, d, _ := made(200)
		q, at := kept(t, p, text(n))
		_, pointers := wantedLevels(text(n), at, 1)
		for range 3 {
			b, l, _ := Load(p, q, n)
			c, k, _ := Load(p, q, n)
			b, l = b[:cap(b)], l[:cap(l)]
			for i := range b {
				b[i] = 99
			}
			for i := range l {
				l[i] = api.Ptr{At: 77, Birth: 77, Sum: 77}
			}
			if !bytes.Equal(c, text(n)) || !slices.Equal(k, fromTheRoot(pointers)) {
				t.Errorf("%v bytes: another answer has changed", n)
			}
			loads(t, "written over", p, q, text(n))
		}
		sectors, _ := wantedLevels(text(n), at, 1)
		for i, s := range slices.Concat(sectors...) {
			reads(t, "written over", d, at[i], s)
		}
	}
}

// P12.3, the section Ways: the text ends where it ends: behind it there is no room.
func TestTheTextEndsWhereItEnds(t *testing.T) {
	for _, n := range lengths {
		p, _, _ := made(1024)
		q, _ := kept(t, p, text(n))
		b, _, e := Load(p, q, n)
		if len(b) != n || cap(b) != n || e != api.OK {
			t.Errorf("%v bytes: %v of %v, %v", n, len(b), cap(b), e)
		}
	}
}

// P12.3: each sector is read once, as often as it stands.
func TestFewOps(t *testing.T) {
	for _, n := range lengths {
		p, d, _ := made(1024)
		q, at := kept(t, p, text(n))
		if d.Ops() != len(at) {
			t.Errorf("Save of %v bytes: %v Ops", n, d.Ops())
		}
		Load(p, q, n)
		if d.Ops() != 2*len(at) {
			t.Errorf("Load of %v bytes: %v Ops", n, d.Ops()-len(at))
		}
	}
}

// P2: a call answers the same whatever was asked ahead of it.
func TestAgain(t *testing.T) {
	p, _, _ := made(200)
	q, at := kept(t, p, text(1025))
	for range 3 {
		loads(t, "again", p, q, text(1025))
		refuses(t, "again", p, none, 9, api.ErrBlob)
		refuses(t, "again", p, q, 9, api.ErrCorrupt)
		undone(t, "again", p, text(9), at, api.ErrBlob)
		undone(t, "again", p, text(1025), append([]int{0}, at[1:]...), api.ErrSlab)
		if x := saves(t, p, text(1025), at); x != q {
			t.Errorf("%v, not %v", x, q)
		}
		if n := Need(1025); n != 12 {
			t.Errorf("Need of 1025: %v", n)
		}
	}
}

// P1: every call ends and none panics, at stamps that can't be, too.
func TestNoPanic(t *testing.T) {
	odd := []int{math.MinInt, math.MinInt + 1, -1, 0, 1, 3, 4, 5, 63, 64, 1023, 1024, math.MaxInt - 1, math.MaxInt}
	for _, stamp := range []uint64{0, 1, api.MaxStamp, api.MaxStamp + 1, math.MaxUint64} {
		for _, sectors := range [][2]int{{0, 0}, {0, 1024}, {1024, 0}, {math.MinInt, math.MaxInt}, {5, 1024}, {64, 64}} {
			d, m := vdev.New(sectors[0]), slab.New(sectors[1])
			p := pile.New(d, m, stamp, 0)
			at, _ := m.Many(m.Count())
			for _, n := range []int{0, 1, 128, 129, 300, 1025, 8193, 65535, 65536} {
				q, _ := Save(p, text(n), at[:min(Need(n), len(at))])
				for _, k := range append(slices.Clone(odd), n, 129, 1025, 65535) {
					Load(p, q, k)
					Load(p, api.Ptr{At: k, Birth: stamp, Sum: uint32(k)}, n)
				}
				Save(p, text(n), nil)
				Save(p, text(n), slices.Repeat(odd, Need(n)/len(odd)+1)[:Need(n)])
			}
			for _, k := range odd {
				Need(k)
				Load(p, none, k)
				Save(p, []byte{1}, []int{k})
			}
		}
	}
}

// plainSave is Save, as the chapter tells word by word, by layer 9's PutAt.
func plainSave(p *pile.Pile, b []byte, at []int) (api.Ptr, api.Errno) {
	if len(b) < 1 || len(b) > 65535 || len(at) != plainNeed(len(b)) {
		return none, 121
	}
	sectors, _ := wantedLevels(b, at, p.Stamp())
	var q api.Ptr
	for i, s := range slices.Concat(sectors...) {
		var e api.Errno
		if q, e = p.PutAt(at[i], s[:]); e != 0 {
			return none, e
		}
	}
	return q, 0
}

// plainLevel is so many pointers of a text's LEVEL and those of all LEVELS above it, by layer 9's Get, from the root on.
func plainLevel(p *pile.Pile, root api.Ptr, size int) ([]api.Ptr, []api.Ptr, api.Errno) {
	if size == 1 {
		return []api.Ptr{root}, []api.Ptr{root}, 0
	}
	above, all, e := plainLevel(p, root, (size+7)/8)
	if e != 0 {
		return nil, nil, e
	}
	var l []api.Ptr
	for _, q := range above {
		s, e := p.Get(q)
		if e != 0 {
			return nil, nil, e
		}
		ends := false
		for _, c := range told(s) {
			if c != none && (c.At < 4 || c.At > 1023 || c.Birth < 1 || c.Birth > 1<<48-1) {
				return nil, nil, 91
			}
			if c == none {
				ends = true
			} else if l = append(l, c); ends || len(l) > size {
				return nil, nil, 91
			}
		}
		if len(l)%8 != 0 && len(l) != size || len(l) == 0 {
			return nil, nil, 91
		}
	}
	if len(l) != size {
		return nil, nil, 91
	}
	return l, append(all, l...), 0
}

// plainLoad is Load, as the chapter tells word by word.
func plainLoad(p *pile.Pile, root api.Ptr, n int) ([]byte, []api.Ptr, api.Errno) {
	if n < 1 || n > 65535 || root == none {
		return nil, nil, 121
	}
	l, all, e := plainLevel(p, root, (n+127)/128)
	if e != 0 {
		return nil, nil, e
	}
	var b []byte
	for _, q := range l {
		s, e := p.Get(q)
		if e != 0 {
			return nil, nil, e
		}
		b = append(b, s[:]...)
	}
	for i := n; i < len(b); i++ {
		if b[i] != 0 {
			return nil, nil, 91
		}
	}
	return b[:n], all, 0
}

// alike: have both devices and both maps the same?
func alike(t *testing.T, why string, p, o *pile.Pile) {
	t.Helper()
	d, k := p.Dev(), o.Dev()
	if d.Pending() != k.Pending() || d.Dead() != k.Dead() || !slices.Equal(p.Map().Taken(), o.Map().Taken()) {
		t.Fatalf("%v: %v writes, not %v", why, d.Pending(), k.Pending())
	}
	for i := range d.Len() {
		s, _ := d.Read(i)
		if r, _ := k.Read(i); s != r || d.Stable(i) != k.Stable(i) {
			t.Fatalf("%v: sector %v: %v, not %v", why, i, s, r)
		}
	}
}

// saved is a text that was saved: under which pointer, and of which length.
type saved struct {
	root api.Ptr
	n    int
}

// P12.1 to P12.3: long mixed runs, held against the words of the chapter: on devices great and small, with sectors that aren't taken, that rot, and power that goes.
func TestMixedRuns(t *testing.T) {
	seed := uint32(12)
	next := func(n int) int {
		seed = seed*1664525 + 1013904223
		return int(seed>>8) % n
	}
	saves, loads := map[api.Errno]int{}, map[api.Errno]int{}
	for _, c := range [][2]int{{0, 0}, {20, 40}, {40, 40}, {64, 64}, {130, 100}, {300, 300}, {1024, 1024}} {
		d, k := vdev.New(c[0]), vdev.New(c[0])
		p, o := pile.New(d, slab.New(c[1]), 1, 0), pile.New(k, slab.New(c[1]), 1, 0)
		p.Map().Many(c[1] * 2 / 3)
		o.Map().Many(c[1] * 2 / 3)
		texts := []saved{{none, 5}, {api.Ptr{At: 9, Birth: 1}, 300}}
		crash := func() {
			keep := make([]bool, d.Pending())
			for i := range keep {
				keep[i] = next(4) > 0
			}
			d.Crash(keep...)
			k.Crash(keep...)
		}
		for round := range 2500 {
			switch next(10) {
			case 0, 1, 2, 3:
				n := next(10 * 128)
				if next(5) == 0 {
					n = lengths[next(len(lengths))]
				}
				b := text(n)
				for range next(3) {
					if i := next(n + 1); next(3) > 0 {
						clear(b[i:])
					}
				}
				at, _ := p.Map().Copy().Many(p.Map().Count())
				l := span.List(p.Map().Taken())
				for len(l) > 0 && len(l) < plainNeed(n) {
					l = append(l, l...)
				}
				if len(l) > 0 {
					turn := next(len(l))
					l = slices.Concat(l[turn:], l[:turn])
				}
				l = l[:min(len(l), plainNeed(n))]
				if next(6) == 0 && len(l) > 0 && len(at) > 0 {
					l[next(len(l))] = at[next(len(at))]
				}
				if next(20) == 0 {
					l = l[:next(len(l)+1)]
				}
				q, e := Save(p, b, l)
				r, f := plainSave(o, b, l)
				if q != r || e != f {
					t.Fatalf("%v, round %v: Save of %v bytes in %v: %v %v, not %v %v", c, round, n, l, q, e, r, f)
				}
				saves[e]++
				if e == api.OK {
					texts = append(texts, saved{q, n})
				}
			case 4, 5, 6:
				x := texts[next(len(texts))]
				if next(2) > 0 {
					x = texts[len(texts)-1]
				}
				if next(3) == 0 {
					x.n += []int{-128, -2, -1, 1, 2, 128, 1024, -1024, 8192}[next(9)]
				}
				b, l, e := Load(p, x.root, x.n)
				s, m, f := plainLoad(o, x.root, x.n)
				if !bytes.Equal(b, s) || !slices.Equal(l, m) || e != f {
					t.Fatalf("%v, round %v: Load of %v: %v bytes, %v %v, not %v bytes, %v %v", c, round, x, len(b), l, e, len(s), m, f)
				}
				loads[e]++
			case 7:
				p.Next()
				o.Next()
				if next(2) > 0 {
					d.Flush()
					k.Flush()
				}
			case 8:
				at := texts[len(texts)-1].root.At - next(8)
				s := d.Stable(at - next(4))
				if next(6) == 0 {
					d.Rot(at, s)
					k.Rot(at, s)
				}
			case 9:
				n := next(60) - 1
				if next(4) > 0 {
					n = -1
				}
				d.Break(n)
				k.Break(n)
				if d.Dead() && next(2) > 0 || next(30) == 0 {
					crash()
				}
			}
			if n := Need(round * 31); n != plainNeed(round*31) {
				t.Fatalf("Need of %v: %v", round*31, n)
			}
			if round%25 == 0 {
				alike(t, "a mixed run", p, o)
			}
		}
		alike(t, "the end of a mixed run", p, o)
	}
	for _, e := range []api.Errno{api.OK, api.ErrBlob, api.ErrSlab, api.ErrSector, api.ErrPower} {
		if saves[e] < 50 {
			t.Errorf("Save answered %v %v times alone: %v", e, saves[e], saves)
		}
	}
	for _, e := range []api.Errno{api.OK, api.ErrBlob, api.ErrCorrupt, api.ErrPower} {
		if loads[e] < 50 {
			t.Errorf("Load answered %v %v times alone: %v", e, loads[e], loads)
		}
	}
}
