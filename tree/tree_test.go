package tree

import (
	"bytes"
	"encoding/binary"
	"hash/crc32"
	"math"
	"slices"
	"testing"

	"aquifer/api"
	"aquifer/pile"
	"aquifer/slab"
	"aquifer/span"
	"aquifer/vdev"
)

var (
	none = api.Ptr{}

	// edges are the blocks at the ends of the tree and of some second NODES.
	edges = []int{0, 7, 8, 55, 56, 63}

	// nowhere are numbers of blocks that no tree has; many are a block's, if they go round somewhere.
	nowhere = []int{-1, 64, 65, -8, -63, -64, 71, 72, 127, 128, 255, 256, 512, 1 << 16, 1<<31 - 1, 1 << 31, 1 << 32, 1<<32 + 9, -1 << 31, -1 << 32, 1 << 62, math.MaxInt - 63, math.MaxInt - 1, math.MaxInt, math.MinInt, math.MinInt + 1, math.MinInt + 64}
)

// total is CRC-32C by the library, and not by layer 3.
func total(s api.Sector) uint32 {
	return crc32.Checksum(s[:], crc32.MakeTable(crc32.Castagnoli))
}

// filled is a block's bytes, with zeros behind.
func filled(b []byte) api.Sector {
	var s api.Sector
	for i := range b {
		s[i] = b[i]
	}
	return s
}

// text is so many bytes, none of them zero, that begin with one of their own.
func text(n int, first byte) []byte {
	b := make([]byte, n)
	for i := range b {
		b[i] = byte(i*7)%255 + 1
	}
	if n > 0 {
		b[0] = first
	}
	return b
}

// laid is pointers' parts as a sector, whether they can be or not.
func laid(l ...api.Ptr) api.Sector {
	var b []byte
	for _, p := range l {
		b = binary.LittleEndian.AppendUint32(b, uint32(p.At))
		b = binary.LittleEndian.AppendUint64(b, p.Birth)
		b = binary.LittleEndian.AppendUint32(b, p.Sum)
	}
	return filled(b)
}

// told is what a sector's bytes tell.
func told(s api.Sector) [8]api.Ptr {
	var l [8]api.Ptr
	for i := range l {
		b := s[16*i:]
		l[i] = api.Ptr{At: int(binary.LittleEndian.Uint32(b)), Birth: binary.LittleEndian.Uint64(b[4:]), Sum: binary.LittleEndian.Uint32(b[12:])}
	}
	return l
}

// to is the pointer to a sector of these bytes.
func to(at int, birth uint64, s api.Sector) api.Ptr {
	return api.Ptr{At: at, Birth: birth, Sum: total(s)}
}

// made is a pile on a new device and a new map, with the stamp 1.
func made(sectors int) (*pile.Pile, *vdev.Dev, *slab.Map) {
	d, m := vdev.New(sectors), slab.New(sectors)
	return pile.New(d, m, 1, 0), d, m
}

// rots lays bytes in a sector, and tells the pointer to them.
func rots(t *testing.T, d *vdev.Dev, at int, birth uint64, s api.Sector) api.Ptr {
	t.Helper()
	if e := d.Rot(at, s); e != api.OK {
		t.Fatalf("Rot of %v: %v", at, e)
	}
	return to(at, birth, s)
}

// sets sets a block, which must be done.
func sets(t *testing.T, p *pile.Pile, root api.Ptr, i int, b []byte) api.Ptr {
	t.Helper()
	x, _, e := Set(p, root, i, b)
	if e != api.OK {
		t.Fatalf("Set of block %v: %v", i, e)
	}
	return x
}

// grown is a tree of these blocks, each of which has ten bytes that begin with its number and one.
func grown(t *testing.T, p *pile.Pile, l ...int) api.Ptr {
	t.Helper()
	root := none
	for _, i := range l {
		root = sets(t, p, root, i, text(10, byte(i+1)))
	}
	return root
}

// whole are the numbers of all blocks.
func whole() []int {
	var l []int
	for i := range 64 {
		l = append(l, i)
	}
	return l
}

// gets: is this the tree's block?
func gets(t *testing.T, why string, p *pile.Pile, root api.Ptr, i int, want api.Sector) {
	t.Helper()
	if s, e := Get(p, root, i); s != want || e != api.OK {
		t.Errorf("%v: Get of block %v: %v %v, not %v", why, i, s, e, want)
	}
}

// refuses: does Get answer just this error?
func refuses(t *testing.T, why string, p *pile.Pile, root api.Ptr, i int, want api.Errno) {
	t.Helper()
	if s, e := Get(p, root, i); s != (api.Sector{}) || e != want {
		t.Errorf("%v: Get of block %v: %v %v, not %v", why, i, s, e, want)
	}
}

// unset: does Set answer this error, the tree as it was, and nothing REPLACED?
func unset(t *testing.T, why string, p *pile.Pile, root api.Ptr, i int, b []byte, want api.Errno) {
	t.Helper()
	if x, l, e := Set(p, root, i, b); x != root || len(l) != 0 || e != want {
		t.Errorf("%v: Set of block %v: %v %v %v, not %v and %v", why, i, x, l, e, root, want)
	}
}

// untrimmed: does Trim answer this error, or none, the tree as it was, and nothing REPLACED?
func untrimmed(t *testing.T, why string, p *pile.Pile, root api.Ptr, i int, want api.Errno) {
	t.Helper()
	if x, l, e := Trim(p, root, i); x != root || len(l) != 0 || e != want {
		t.Errorf("%v: Trim of block %v: %v %v %v, not %v and %v", why, i, x, l, e, root, want)
	}
}

// unlisted: do All and Blocks answer just this error, and none?
func unlisted(t *testing.T, why string, p *pile.Pile, root api.Ptr, want api.Errno) {
	t.Helper()
	if l, e := All(p, root, 0); len(l) != 0 || e != want {
		t.Errorf("%v: All: %v %v, not %v", why, l, e, want)
	}
	if l, e := Blocks(p, root); len(l) != 0 || e != want {
		t.Errorf("%v: Blocks: %v %v, not %v", why, l, e, want)
	}
}

// holds: are these the tree's blocks?
func holds(t *testing.T, why string, p *pile.Pile, root api.Ptr, want ...int) {
	t.Helper()
	if l, e := Blocks(p, root); !slices.Equal(l, want) || e != api.OK {
		t.Errorf("%v: Blocks: %v %v, not %v", why, l, e, want)
	}
}

// born: are these the pointers of the tree that were born behind the stamp?
func born(t *testing.T, why string, p *pile.Pile, root api.Ptr, stamp uint64, want ...api.Ptr) {
	t.Helper()
	if l, e := All(p, root, stamp); !slices.Equal(l, want) || e != api.OK {
		t.Errorf("%v: All behind %v: %v %v, not %v", why, stamp, l, e, want)
	}
}

// taken: are so many sectors taken, and nothing waits?
func taken(t *testing.T, why string, m *slab.Map, want int) {
	t.Helper()
	if n := span.Count(m.Taken()); n != want || len(m.Waiting()) != 0 {
		t.Errorf("%v: %v are taken, not %v; %v wait", why, n, want, m.Waiting())
	}
}

// leaves takes sectors till just so many are free.
func leaves(t *testing.T, m *slab.Map, free int) {
	t.Helper()
	if _, e := m.Many(m.Count() - free); e != api.OK || m.Count() != free {
		t.Fatalf("%v are free, not %v: %v", m.Count(), free, e)
	}
}

// dies takes a device's power.
func dies(t *testing.T, d *vdev.Dev) {
	t.Helper()
	d.Break(0)
	if e := d.Flush(); e != api.ErrPower || !d.Dead() {
		t.Fatalf("the power isn't gone: %v", e)
	}
}

// stable makes all that was written stable.
func stable(t *testing.T, d *vdev.Dev) {
	t.Helper()
	if e := d.Flush(); e != api.OK {
		t.Fatalf("Flush: %v", e)
	}
}

// The section Errors, and those of the layers below: their numbers.
func TestErrors(t *testing.T) {
	p, d, m := made(100)
	root := grown(t, p, 9)
	for _, i := range []int{-1, 64} {
		if _, e := Get(p, root, i); e != 111 {
			t.Errorf("Get of block %v: %v", i, e)
		}
		if _, _, e := Set(p, root, i, nil); e != 111 {
			t.Errorf("Set of block %v: %v", i, e)
		}
		if _, _, e := Trim(p, root, i); e != 111 {
			t.Errorf("Trim of block %v: %v", i, e)
		}
	}
	if _, _, e := Set(p, root, 0, make([]byte, 129)); e != 92 {
		t.Errorf("Set of more than 128 bytes: %v", e)
	}
	leaves(t, m, 2)
	if _, _, e := Set(p, root, 0, nil); e != 71 {
		t.Errorf("Set where two are free: %v", e)
	}
	d.Rot(root.At, api.Sector{9})
	if _, e := Get(p, root, 9); e != 91 {
		t.Errorf("Get of what has rotted: %v", e)
	}
	dies(t, d)
	if _, e := All(p, root, 0); e != 42 {
		t.Errorf("All without power: %v", e)
	}
}

// The chapter's example.
func TestExample(t *testing.T) {
	p, _, m := made(100)
	root, l, e := Set(p, none, 9, []byte("hi"))
	if e != api.OK || len(l) != 0 || root == none {
		t.Errorf("Set: %v %v %v", root, l, e)
	}
	taken(t, "Set of block 9 in a HOLE", m, 3)
	three, e := All(p, root, 0)
	if len(three) != 3 || e != api.OK {
		t.Fatalf("All: %v %v", three, e)
	}
	slices.Reverse(three)
	x, l, e := Trim(p, root, 9)
	if x != none || !slices.Equal(l, three) || e != api.OK {
		t.Errorf("Trim: %v %v %v, not %v", x, l, e, three)
	}
	taken(t, "Trim of it", m, 3)
}

// P11.1 to P11.3: of numbers that no block has all calls answer ErrIndex, ahead of all else, and do nothing.
func TestNoSuchBlock(t *testing.T) {
	for _, i := range nowhere {
		p, d, m := made(100)
		root := grown(t, p, 0, 9, 63)
		trees := []api.Ptr{none, root, {At: 5000, Birth: 1}, {At: -1}, {At: root.At, Birth: 1}}
		refused := func(why string) {
			t.Helper()
			was, pending, free := d.Ops(), d.Pending(), m.Count()
			for _, q := range trees {
				refuses(t, why, p, q, i, api.ErrIndex)
				unset(t, why, p, q, i, nil, api.ErrIndex)
				unset(t, why, p, q, i, make([]byte, 128), api.ErrIndex)
				unset(t, why, p, q, i, make([]byte, 129), api.ErrIndex)
				untrimmed(t, why, p, q, i, api.ErrIndex)
			}
			if d.Ops() != was || d.Pending() != pending || m.Count() != free {
				t.Errorf("%v: something was done for block %v", why, i)
			}
		}
		refused("with power and room")
		leaves(t, m, 0)
		refused("without room")
		dies(t, d)
		refused("without power")
	}
}

// P11.1: of a HOLE all blocks are zeros, with power or without, and nothing is read.
func TestGetOfAHole(t *testing.T) {
	for _, sectors := range []int{0, 1, 100} {
		p, d, _ := made(sectors)
		for _, power := range []bool{true, false} {
			if !power {
				dies(t, d)
			}
			was := d.Ops()
			for i := range 64 {
				gets(t, "a HOLE", p, none, i, api.Sector{})
			}
			if d.Ops() != was {
				t.Errorf("of %v sectors, power %v: %v were read", sectors, power, d.Ops()-was)
			}
		}
	}
}

// P11.1: of a tree with one block, with each second NODE's first, and of a full one, all blocks.
func TestGet(t *testing.T) {
	var firsts []int
	for i := 0; i < 64; i += 8 {
		firsts = append(firsts, i)
	}
	for _, l := range [][]int{{0}, {7}, {8}, {9}, {55}, {56}, {63}, {0, 63}, {9, 10}, {7, 8}, firsts, {16, 17, 18, 19, 20, 21, 22, 23}, edges, whole()} {
		p, _, _ := made(400)
		root := grown(t, p, l...)
		for i := range 64 {
			want := api.Sector{}
			if slices.Contains(l, i) {
				want = filled(text(10, byte(i+1)))
			}
			gets(t, "a tree", p, root, i, want)
		}
		holds(t, "a tree", p, root, l...)
	}
}

// P11.1: block i hangs on pointer i modulo 8 of the NODE on which pointer i / 8 of the first NODE leads: trees that were laid by hand.
func TestGetOfWhatWasLaid(t *testing.T) {
	for i := range 64 {
		p, d, _ := made(100)
		b := filled(text(128, byte(i+1)))
		var first, second [8]api.Ptr
		second[i%8] = rots(t, d, 50, 3, b)
		first[i/8] = rots(t, d, 40, 2, laid(second[:]...))
		root := rots(t, d, 30, 1, laid(first[:]...))
		for k := range 64 {
			want := api.Sector{}
			if k == i {
				want = b
			}
			gets(t, "laid", p, root, k, want)
		}
		holds(t, "laid", p, root, i)
	}
}

// P11.1: the tree may lie in any sectors, those of the ring too, as layer 9 asks the sum alone; and a pointer of zeros but for its sum is no HOLE.
func TestGetAsksTheSumAlone(t *testing.T) {
	p, d, _ := made(100)
	b := rots(t, d, 9, 1, filled([]byte("b")))
	second := rots(t, d, 8, 1, laid(b))
	for _, at := range []int{0, 1, 3, 4, 99} {
		for _, birth := range []uint64{0, 1, api.MaxStamp, api.MaxStamp + 1, math.MaxUint64} {
			root := rots(t, d, at, birth, laid(second))
			gets(t, "any sector", p, root, 0, filled([]byte("b")))
			gets(t, "any sector", p, root, 1, api.Sector{})
			holds(t, "any sector", p, root, 0)
			d.Rot(at, api.Sector{1})
			refuses(t, "overwritten", p, root, 0, api.ErrCorrupt)
			refuses(t, "overwritten", p, root, 63, api.ErrCorrupt)
		}
	}
	// The sum of zeros in sector 0, born never: no HOLE, but a NODE of HOLES.
	zeros := rots(t, d, 0, 0, api.Sector{})
	gets(t, "zeros", p, zeros, 5, api.Sector{})
	holds(t, "zeros", p, zeros)
	untrimmed(t, "zeros", p, zeros, 5, api.OK)
	d.Rot(0, api.Sector{1})
	refuses(t, "no zeros", p, zeros, 5, api.ErrCorrupt)
	if l, e := Blocks(p, zeros); len(l) != 0 || e != api.ErrCorrupt {
		t.Errorf("no zeros: %v %v", l, e)
	}
	if l, e := All(p, zeros, 0); len(l) != 0 || e != api.OK {
		t.Errorf("never born, so nothing is looked at: %v %v", l, e)
	}
}

// P11.2: of a HOLE, each block: the sectors that Alloc gives, the block's first, then the second NODE's, then the first one's; their bytes, and nothing REPLACED.
func TestSetInAHole(t *testing.T) {
	for i := range 64 {
		for _, sectors := range []int{7, 64, 66, 150} {
			p, d, m := made(sectors)
			p.Next()
			own := m.Copy()
			at, _ := own.Many(3)
			root, l, e := Set(p, none, i, text(10, 9))
			var first, second [8]api.Ptr
			second[i%8] = to(at[0], 2, filled(text(10, 9)))
			first[i/8] = to(at[1], 2, laid(second[:]...))
			if root != to(at[2], 2, laid(first[:]...)) || len(l) != 0 || e != api.OK {
				t.Errorf("of %v sectors, block %v: %v %v %v", sectors, i, root, l, e)
			}
			for k, want := range []api.Sector{filled(text(10, 9)), laid(second[:]...), laid(first[:]...)} {
				if s, e := d.Read(at[k]); s != want || e != api.OK {
					t.Errorf("of %v sectors, block %v, sector %v: %v %v", sectors, i, at[k], s, e)
				}
			}
			if !slices.Equal(m.Taken(), own.Taken()) || d.Pending() != 3 || p.Stamp() != 2 || p.Base() != 0 {
				t.Errorf("of %v sectors, block %v: %v are taken, not %v; %v writes", sectors, i, m.Taken(), own.Taken(), d.Pending())
			}
			born(t, "the three", p, root, 0, root, first[i/8], second[i%8])
		}
	}
}

// P11.2: over a block that is there: the block's, the second NODE's and the first one's pointers are REPLACED, in that order; all else stays.
func TestSetOverABlock(t *testing.T) {
	for _, l := range [][]int{{0}, {63}, edges, {8, 9, 10, 11, 12, 13, 14, 15}, whole()} {
		for _, i := range l {
			p, d, m := made(400)
			root := grown(t, p, l...)
			first, _ := d.Read(root.At)
			second, _ := d.Read(told(first)[i/8].At)
			want := []api.Ptr{told(second)[i%8], told(first)[i/8], root}
			p.Next()
			x, k, e := Set(p, root, i, text(128, 200))
			if e != api.OK || !slices.Equal(k, want) || x.Birth != 2 {
				t.Errorf("%v, block %v: %v %v %v, not %v", l, i, x, k, e, want)
			}
			taken(t, "nothing is dropped", m, 3*len(l)+3)
			for j := range 64 {
				was := api.Sector{}
				if slices.Contains(l, j) {
					was = filled(text(10, byte(j+1)))
				}
				gets(t, "the tree that was", p, root, j, was)
				if j == i {
					was = filled(text(128, 200))
				}
				gets(t, "the tree that is", p, x, j, was)
			}
			holds(t, "the tree that is", p, x, l...)
		}
	}
}

// P11.2: of a block that isn't, beside others of the same second NODE: that one and the first one are REPLACED.
func TestSetBesideOthers(t *testing.T) {
	for _, i := range edges {
		for _, beside := range whole()[i/8*8 : i/8*8+8] {
			if beside == i {
				continue
			}
			p, d, m := made(100)
			root := grown(t, p, beside)
			first, _ := d.Read(root.At)
			p.Next()
			x, l, e := Set(p, root, i, text(128, 200))
			if e != api.OK || !slices.Equal(l, []api.Ptr{told(first)[i/8], root}) {
				t.Errorf("block %v beside %v: %v %v %v", i, beside, x, l, e)
			}
			taken(t, "nothing is dropped", m, 6)
			gets(t, "set", p, x, i, filled(text(128, 200)))
			gets(t, "beside it", p, x, beside, filled(text(10, byte(beside+1))))
			holds(t, "beside it", p, x, min(i, beside), max(i, beside))
			holds(t, "the tree that was", p, root, beside)
			gets(t, "the tree that was", p, root, i, api.Sector{})
		}
	}
}

// P11.2: of a block in a second NODE that isn't: the first one alone is REPLACED.
func TestSetInASecondNodeThatIsNot(t *testing.T) {
	for _, i := range edges {
		for _, other := range whole() {
			if other/8 == i/8 {
				continue
			}
			p, _, m := made(100)
			root := grown(t, p, other)
			p.Next()
			x, l, e := Set(p, root, i, text(128, 200))
			if e != api.OK || !slices.Equal(l, []api.Ptr{root}) {
				t.Errorf("block %v, where %v is: %v %v %v", i, other, x, l, e)
			}
			taken(t, "nothing is dropped", m, 6)
			gets(t, "set", p, x, i, filled(text(128, 200)))
			gets(t, "another one", p, x, other, filled(text(10, byte(other+1))))
			holds(t, "both", p, x, min(i, other), max(i, other))
			holds(t, "the tree that was", p, root, other)
		}
	}
}

// P11.2: blocks of no bytes, of 127 and of 128; of zeros alone: all of them are blocks, and no HOLES.
func TestSetOfLengths(t *testing.T) {
	for _, b := range [][]byte{nil, {}, {0}, make([]byte, 127), make([]byte, 128), text(1, 9), text(126, 9), text(127, 9), text(128, 9)} {
		for _, i := range edges {
			p, _, m := made(100)
			root, l, e := Set(p, none, i, b)
			if root == none || len(l) != 0 || e != api.OK {
				t.Errorf("%v bytes: %v %v %v", len(b), root, l, e)
			}
			taken(t, "a block", m, 3)
			gets(t, "a block", p, root, i, filled(b))
			holds(t, "a block", p, root, i)
			x, l, e := Trim(p, root, i)
			if x != none || len(l) != 3 || l[0].Sum != total(filled(b)) || e != api.OK {
				t.Errorf("Trim of %v bytes: %v %v %v", len(b), x, l, e)
			}
		}
	}
}

// P11.2: more than 128 bytes are refused behind ErrIndex alone, and nothing is done.
func TestSetOfTooManyBytes(t *testing.T) {
	for _, n := range []int{129, 130, 255, 256, 257, 384, 1 << 16, 1<<16 + 5, 1 << 20} {
		b := make([]byte, n) // zeros are bytes, too
		p, d, m := made(100)
		root := grown(t, p, 0, 9)
		refused := func(why string) {
			t.Helper()
			was, pending, free := d.Ops(), d.Pending(), m.Count()
			for _, q := range []api.Ptr{none, root, {At: 5000, Birth: 1}, {At: root.At, Birth: 1}} {
				for _, i := range edges {
					unset(t, why, p, q, i, b, api.ErrBlock)
				}
			}
			if d.Ops() != was || d.Pending() != pending || m.Count() != free {
				t.Errorf("%v: something was done for %v bytes", why, n)
			}
		}
		refused("with power and room")
		leaves(t, m, 0)
		refused("without room")
		dies(t, d)
		refused("without power")
	}
}

// P11.2: the same bytes set again are written elsewhere, and what was there is REPLACED.
func TestSetOfTheSameBytes(t *testing.T) {
	for _, next := range []bool{false, true} {
		p, _, m := made(100)
		root := grown(t, p, 9)
		was, _ := All(p, root, 0)
		if next {
			p.Next()
		}
		x, l, e := Set(p, root, 9, text(10, 10))
		slices.Reverse(was)
		if e != api.OK || !slices.Equal(l, was) || x == root {
			t.Errorf("%v %v %v, not %v", x, l, e, was)
		}
		taken(t, "the same bytes", m, 6)
		is, _ := All(p, x, 0)
		if len(is) != 3 {
			t.Fatalf("%v", is)
		}
		for i, q := range is {
			if slices.ContainsFunc(was, func(o api.Ptr) bool { return o.At == q.At }) || q.Birth != p.Stamp() {
				t.Errorf("pointer %v: %v, and %v was", i, q, was)
			}
		}
		if is[2].Sum != was[0].Sum {
			t.Errorf("the sums of the same bytes: %v %v", is[2], was[0])
		}
		gets(t, "the same bytes", p, x, 9, filled(text(10, 10)))
		gets(t, "the same bytes", p, root, 9, filled(text(10, 10)))
	}
}

// P11.2: three must be FREE, wherever the block is; what waits isn't.
func TestRoomForSet(t *testing.T) {
	for _, l := range [][]int{nil, {9}, {10}, {63}, whole()} {
		for free := range 5 {
			p, d, m := made(400)
			root := grown(t, p, l...)
			leaves(t, m, free)
			was, pending := m.Taken(), d.Pending()
			if free >= 3 {
				x, _, e := Set(p, root, 9, []byte("x"))
				if e != api.OK {
					t.Errorf("%v, %v are free: %v", l, free, e)
				}
				if m.Count() != free-3 {
					t.Errorf("%v, %v were free: %v are", l, free, m.Count())
				}
				gets(t, "just room", p, x, 9, filled([]byte("x")))
				continue
			}
			unset(t, "no room", p, root, 9, []byte("x"), api.ErrSpace)
			if !slices.Equal(m.Taken(), was) || d.Pending() != pending {
				t.Errorf("%v, %v are free: something was done", l, free)
			}
			for _, i := range was[0:1] {
				m.Later(i.Start)
				m.Later(i.Start + 1)
				m.Later(i.Start + 2)
			}
			unset(t, "three wait", p, root, 9, []byte("x"), api.ErrSpace)
			m.Commit()
			root = sets(t, p, none, 9, []byte("x"))
			gets(t, "behind a Commit", p, root, 9, filled([]byte("x")))
		}
	}
	for _, sectors := range []int{0, 4, 5, 6, 7} {
		p, _, _ := made(sectors)
		if x, l, e := Set(p, none, 0, nil); (e == api.OK) != (sectors == 7) || len(l) != 0 || e != api.OK && (x != none || e != api.ErrSpace) {
			t.Errorf("of %v sectors: %v %v %v", sectors, x, l, e)
		}
	}
}

// P11.3: of a block that is a HOLE nothing changes: the tree is one, it has no such second NODE, or that one no such block; and no room is wanted.
func TestTrimOfAHole(t *testing.T) {
	for _, l := range [][]int{nil, {9}, {0, 7, 8, 55, 56, 63}} {
		p, d, m := made(100)
		root := grown(t, p, l...)
		for _, free := range []int{m.Count(), 1, 0} {
			leaves(t, m, free)
			pending := d.Pending()
			for i := range 64 {
				if !slices.Contains(l, i) {
					untrimmed(t, "a HOLE", p, root, i, api.OK)
				}
			}
			if m.Count() != free || d.Pending() != pending {
				t.Errorf("%v: something was done", l)
			}
		}
	}
}

// P11.3: of one among others of its second NODE: both NODES are put, with two sectors; what was there is REPLACED.
func TestTrimAmongOthers(t *testing.T) {
	for _, l := range [][]int{{0, 7}, {8, 15, 9}, {56, 63, 3}, {55, 54}, whole()} {
		for free := range 4 {
			p, d, m := made(400)
			root := grown(t, p, l...)
			i := l[1]
			first, _ := d.Read(root.At)
			second, _ := d.Read(told(first)[i/8].At)
			want := []api.Ptr{told(second)[i%8], told(first)[i/8], root}
			leaves(t, m, free)
			own := m.Copy()
			was, pending := m.Taken(), d.Pending()
			p.Next()
			if free < 2 {
				untrimmed(t, "no room", p, root, i, api.ErrSpace)
				if !slices.Equal(m.Taken(), was) || d.Pending() != pending {
					t.Errorf("%v, %v are free: something was done", l, free)
				}
				continue
			}
			at, _ := own.Many(2)
			k, j := told(first), told(second)
			j[i%8] = none
			k[i/8] = to(at[0], 2, laid(j[:]...))
			x, r, e := Trim(p, root, i)
			if x != to(at[1], 2, laid(k[:]...)) || !slices.Equal(r, want) || e != api.OK {
				t.Errorf("%v, %v are free: %v %v %v, not %v", l, free, x, r, e, want)
			}
			if !slices.Equal(m.Taken(), own.Taken()) || d.Pending() != pending+2 {
				t.Errorf("%v, %v are free: %v are taken, not %v; %v writes", l, free, m.Taken(), own.Taken(), d.Pending()-pending)
			}
			gets(t, "trimmed", p, x, i, api.Sector{})
			gets(t, "beside it", p, x, l[0], filled(text(10, byte(l[0]+1))))
			gets(t, "the tree that was", p, root, i, filled(text(10, byte(i+1))))
			left := slices.Sorted(slices.Values(l))
			holds(t, "the tree that was", p, root, left...)
			holds(t, "trimmed", p, x, slices.DeleteFunc(left, func(n int) bool { return n == i })...)
		}
	}
}

// P11.3: of the last one of a second NODE: that one is a HOLE, and the first one is put, with one sector.
func TestTrimOfTheLastOfASecondNode(t *testing.T) {
	for _, l := range [][]int{{0, 8}, {7, 8}, {63, 0}, {8, 7, 55, 56}, {56, 55, 54}, {9, 0, 16, 24, 32, 40, 48, 56}} {
		for free := range 3 {
			p, d, m := made(100)
			root := grown(t, p, l...)
			i := l[0]
			first, _ := d.Read(root.At)
			second, _ := d.Read(told(first)[i/8].At)
			want := []api.Ptr{told(second)[i%8], told(first)[i/8], root}
			leaves(t, m, free)
			own := m.Copy()
			pending := d.Pending()
			p.Next()
			if free < 1 {
				untrimmed(t, "no room", p, root, i, api.ErrSpace)
				if m.Count() != free || d.Pending() != pending {
					t.Errorf("%v, %v are free: something was done", l, free)
				}
				continue
			}
			at, _ := own.Alloc()
			k := told(first)
			k[i/8] = none
			x, r, e := Trim(p, root, i)
			if x != to(at, 2, laid(k[:]...)) || !slices.Equal(r, want) || e != api.OK {
				t.Errorf("%v, %v are free: %v %v %v, not %v", l, free, x, r, e, want)
			}
			if !slices.Equal(m.Taken(), own.Taken()) || d.Pending() != pending+1 {
				t.Errorf("%v, %v are free: %v are taken, not %v; %v writes", l, free, m.Taken(), own.Taken(), d.Pending()-pending)
			}
			gets(t, "trimmed", p, x, i, api.Sector{})
			gets(t, "the tree that was", p, root, i, filled(text(10, byte(i+1))))
			holds(t, "trimmed", p, x, slices.Sorted(slices.Values(l[1:]))...)
		}
	}
}

// P11.3: of the last one of the tree: that is a HOLE, and no sector is wanted, nor written.
func TestTrimOfTheLastOfTheTree(t *testing.T) {
	for i := range 64 {
		for _, free := range []int{0, 1, 50} {
			p, d, m := made(100)
			root := grown(t, p, i)
			want, _ := All(p, root, 0)
			slices.Reverse(want)
			leaves(t, m, free)
			p.Next()
			x, l, e := Trim(p, root, i)
			if x != none || !slices.Equal(l, want) || e != api.OK {
				t.Errorf("block %v, %v are free: %v %v %v, not %v", i, free, x, l, e, want)
			}
			if m.Count() != free || d.Pending() != 3 {
				t.Errorf("block %v: %v are free, not %v; %v writes", i, m.Count(), free, d.Pending())
			}
			gets(t, "the tree that was", p, root, i, filled(text(10, byte(i+1))))
		}
	}
}

// P11.3: a NODE whose pointers are all HOLES isn't put, but others that lead to such a one are left as they are.
func TestTrimBesideEmptyNodes(t *testing.T) {
	p, d, m := made(100)
	b := rots(t, d, 50, 1, filled([]byte("b")))
	empty := rots(t, d, 51, 1, api.Sector{})
	second := rots(t, d, 52, 1, laid(b))
	first := laid(none, second, empty)
	root := rots(t, d, 53, 1, first)
	untrimmed(t, "in an empty NODE", p, root, 16, api.OK)
	leaves(t, m, 0)
	untrimmed(t, "beside an empty NODE, no room", p, root, 8, api.ErrSpace)
	m.Take(60)
	m.Free(60)
	x, l, e := Trim(p, root, 8)
	if x != to(60, 1, laid(none, none, empty)) || !slices.Equal(l, []api.Ptr{b, second, root}) || e != api.OK {
		t.Errorf("%v %v %v", x, l, e)
	}
	born(t, "an empty NODE", p, x, 0, x, empty)
	holds(t, "an empty NODE", p, x)
	for _, free := range []int{4, 5, 6} {
		m.Free(free)
	}
	y, l, e := Set(p, x, 17, []byte("c"))
	if !slices.Equal(l, []api.Ptr{empty, x}) || e != api.OK {
		t.Errorf("Set in an empty NODE: %v %v %v", y, l, e)
	}
	holds(t, "Set in an empty NODE", p, y, 17)
}

// P11.2, P11.3: all blocks set in some order and trimmed in another; each tree on that way is still had, as long as nothing is dropped.
func TestEachTreeIsStillHad(t *testing.T) {
	p, _, m := made(1024)
	type tree struct {
		root   api.Ptr
		blocks map[int]byte
	}
	trees := []tree{{none, map[int]byte{}}}
	step := func(i int, set bool) {
		last := trees[len(trees)-1]
		is := map[int]byte{}
		for k, v := range last.blocks {
			is[k] = v
		}
		p.Next()
		var root api.Ptr
		var e api.Errno
		if set {
			is[i] = byte(len(trees)%250 + 1)
			root, _, e = Set(p, last.root, i, []byte{is[i]})
		} else {
			delete(is, i)
			root, _, e = Trim(p, last.root, i)
		}
		if e != api.OK {
			t.Fatalf("block %v: %v", i, e)
		}
		trees = append(trees, tree{root, is})
	}
	for i := range 64 {
		step(i*37%64, true)
		step(i*37%64/2, true)
	}
	for i := range 64 {
		step(i*29%64, false)
	}
	if trees[len(trees)-1].root != none {
		t.Error("trimmed of all, the tree is no HOLE")
	}
	if n := span.Count(m.Taken()); n > 3*len(trees) {
		t.Errorf("%v are taken", n)
	}
	for n, x := range trees {
		var blocks []int
		for i := range 64 {
			gets(t, "a tree on the way", p, x.root, i, api.Sector{x.blocks[i]})
			if x.blocks[i] != 0 {
				blocks = append(blocks, i)
			}
		}
		holds(t, "a tree on the way", p, x.root, blocks...)
		if t.Failed() {
			t.Fatalf("tree %v", n)
		}
	}
}

// P11.4: of a HOLE there is nothing, with power or without.
func TestAllOfAHole(t *testing.T) {
	p, d, _ := made(100)
	for range 2 {
		for _, stamp := range []uint64{0, 1, api.MaxStamp, math.MaxUint64} {
			born(t, "a HOLE", p, none, stamp)
		}
		holds(t, "a HOLE", p, none)
		dies(t, d)
	}
}

// P11.4: what was born behind the stamp: just at, above and below each birth.
func TestAllByBirth(t *testing.T) {
	for _, from := range []uint64{1, 2, 1 << 32, api.MaxStamp - 2} {
		d, m := vdev.New(100), slab.New(100)
		p := pile.New(d, m, from, 0)
		one := grown(t, p, 3)
		p.Next()
		two := sets(t, p, one, 60, text(10, 61))
		p.Next()
		three := sets(t, p, two, 4, text(10, 5))
		first, _ := d.Read(three.At)
		a, b := told(first)[0], told(first)[7]
		sa, _ := d.Read(a.At)
		sb, _ := d.Read(b.At)
		b3, b4, b60 := told(sa)[3], told(sa)[4], told(sb)[4]
		for _, stamp := range []uint64{0, from - 1} {
			born(t, "all", p, three, stamp, three, a, b3, b4, b, b60)
			born(t, "all", p, one, stamp, one, to(5, from, laid(none, none, none, b3)), b3)
		}
		born(t, "behind the first", p, three, from, three, a, b4, b, b60)
		born(t, "behind the second", p, three, from+1, three, a, b4)
		born(t, "behind the second", p, two, from+1)
		for _, stamp := range []uint64{from + 2, from + 3, api.MaxStamp, api.MaxStamp + 1, 1 << 63, math.MaxUint64} {
			born(t, "behind the third", p, three, stamp)
		}
		holds(t, "whenever they were born", p, three, 3, 4, 60)
	}
}

// P11.4: of a full tree: each NODE ahead of what hangs on it, in its order.
func TestAllInOrder(t *testing.T) {
	p, d, _ := made(400)
	var order []int
	for i := range 64 {
		order = append(order, i*37%64)
	}
	root := grown(t, p, order...)
	want := []api.Ptr{root}
	first, _ := d.Read(root.At)
	for _, q := range told(first) {
		second, _ := d.Read(q.At)
		k := told(second)
		want = append(want, q)
		want = append(want, k[:]...)
	}
	born(t, "a full tree", p, root, 0, want...)
	holds(t, "a full tree", p, root, whole()...)
	p.Next()
	root = sets(t, p, root, 30, nil)
	if l, e := All(p, root, 1); len(l) != 3 || e != api.OK || l[0] != root {
		t.Errorf("behind one more Set: %v %v", l, e)
	}
	if l, e := All(p, root, 0); len(l) != 73 || e != api.OK {
		t.Errorf("all of it: %v %v", len(l), e)
	}
}

// P11.4: below a NODE that wasn't born behind the stamp nothing is looked at, though what hangs on it is newer, or can't be had.
func TestAllLooksAtNothingBelow(t *testing.T) {
	p, d, _ := made(100)
	newer := rots(t, d, 40, 9, filled([]byte("newer")))
	older := rots(t, d, 41, 2, filled([]byte("older")))
	a := rots(t, d, 50, 5, laid(newer, older))
	b := rots(t, d, 51, 3, laid(none, newer, none, older, newer))
	c := rots(t, d, 52, 9, laid(older, older, older, older, older, older, older, newer))
	root := rots(t, d, 60, 4, laid(a, none, b, none, none, none, none, c))
	blocks := []int{0, 1, 17, 19, 20, 56, 57, 58, 59, 60, 61, 62, 63}
	born(t, "below all", p, root, 1, root, a, newer, older, b, newer, older, newer, c, older, older, older, older, older, older, older, newer)
	born(t, "at the older ones", p, root, 2, root, a, newer, b, newer, newer, c, newer)
	born(t, "at a second NODE", p, root, 3, root, a, newer, c, newer)
	for _, stamp := range []uint64{4, 5, 8, 9, math.MaxUint64} {
		born(t, "at the first NODE", p, root, stamp)
	}
	holds(t, "whenever they were born", p, root, blocks...)
	d.Rot(51, api.Sector{1})
	born(t, "one that isn't looked at has rotted", p, root, 3, root, a, newer, c, newer)
	for _, stamp := range []uint64{0, 1, 2} {
		if l, e := All(p, root, stamp); len(l) != 0 || e != api.ErrCorrupt {
			t.Errorf("one that is looked at has rotted, behind %v: %v %v", stamp, l, e)
		}
	}
	if l, e := Blocks(p, root); len(l) != 0 || e != api.ErrCorrupt {
		t.Errorf("Blocks where one has rotted: %v %v", l, e)
	}
	d.Rot(60, api.Sector{1})
	was := d.Ops()
	for _, stamp := range []uint64{4, 5, math.MaxUint64} {
		born(t, "the first NODE has rotted", p, root, stamp)
	}
	dies(t, d)
	born(t, "no power", p, root, 4)
	if d.Ops() != was+1 {
		t.Errorf("%v were read", d.Ops()-was-1)
	}
	if l, e := All(p, root, 3); len(l) != 0 || e != api.ErrPower {
		t.Errorf("no power: %v %v", l, e)
	}
}

// P11.4: blocks aren't read: what has rotted there is told all the same.
func TestAllReadsNoBlocks(t *testing.T) {
	p, d, _ := made(100)
	root := grown(t, p, 3, 60)
	want, _ := All(p, root, 0)
	for _, q := range []api.Ptr{want[2], want[4]} {
		d.Rot(q.At, api.Sector{77})
	}
	refuses(t, "rotten", p, root, 3, api.ErrCorrupt)
	born(t, "rotten blocks", p, root, 0, want...)
	holds(t, "rotten blocks", p, root, 3, 60)
	nowhere := api.Ptr{At: 1000, Birth: 1, Sum: 5}
	second := rots(t, d, 90, 1, laid(none, nowhere))
	root = rots(t, d, 91, 1, laid(second))
	born(t, "a block that isn't there", p, root, 0, root, second, nowhere)
	holds(t, "a block that isn't there", p, root, 1)
	refuses(t, "a block that isn't there", p, root, 1, api.ErrCorrupt)
}

// P11.4: a pointer that stands at several places is answered at each, and what hangs on it, too.
func TestAllOfWhatStandsTwice(t *testing.T) {
	p, d, _ := made(100)
	b := rots(t, d, 40, 1, filled([]byte("b")))
	second := rots(t, d, 50, 1, laid(b, b, none, b, none, none, none, b))
	root := rots(t, d, 60, 1, laid(second, none, second, none, none, none, second, second))
	each := []api.Ptr{second, b, b, b, b}
	want := slices.Concat([]api.Ptr{root}, each, each, each, each)
	born(t, "several places", p, root, 0, want...)
	blocks := []int{0, 1, 3, 7, 16, 17, 19, 23, 48, 49, 51, 55, 56, 57, 59, 63}
	holds(t, "several places", p, root, blocks...)
	for _, i := range blocks {
		gets(t, "several places", p, root, i, filled([]byte("b")))
	}
	// One of them is another one then; the others stay.
	x, l, e := Set(p, root, 17, []byte("x"))
	if !slices.Equal(l, []api.Ptr{b, second, root}) || e != api.OK {
		t.Errorf("Set of one of them: %v %v %v", x, l, e)
	}
	for _, i := range blocks {
		want := filled([]byte("b"))
		if i == 17 {
			want = filled([]byte("x"))
		}
		gets(t, "Set of one of them", p, x, i, want)
	}
	x, l, e = Trim(p, root, 48)
	if !slices.Equal(l, []api.Ptr{b, second, root}) || e != api.OK {
		t.Errorf("Trim of one of them: %v %v %v", x, l, e)
	}
	holds(t, "Trim of one of them", p, x, slices.DeleteFunc(slices.Clone(blocks), func(i int) bool { return i == 48 })...)
	// A NODE that leads to itself by its sector alone: the sum is never its own, so nothing goes round.
	own := rots(t, d, 70, 1, laid(api.Ptr{At: 70, Birth: 1, Sum: 1}))
	unlisted(t, "a NODE that leads to itself", p, own, api.ErrCorrupt)
	// A NODE that stands where a block, or the other NODE, is to be: the levels alone count.
	high := rots(t, d, 71, 1, laid(root))
	born(t, "a tree as a NODE", p, high, 0, high, root, second, second, second, second)
	holds(t, "a tree as a NODE", p, high, 0, 2, 6, 7)
	s, _ := d.Read(second.At)
	gets(t, "a NODE as a block", p, high, 2, s)
}

// P11.1 to P11.4: what can't be had: the first NODE, the second one, the block: by a pointer that isn't Right, to a sector that the device doesn't have, or to one that was overwritten.
func TestWhatCanNotBeHad(t *testing.T) {
	for _, i := range edges {
		for level := range 3 {
			p, d, m := made(100)
			root := grown(t, p, i, (i+3)%64, (i+16)%64)
			first, _ := d.Read(root.At)
			second, _ := d.Read(told(first)[i/8].At)
			q := []api.Ptr{root, told(first)[i/8], told(second)[i%8]}[level]
			was, _ := d.Read(q.At)
			was[5]++
			d.Rot(q.At, was)
			pending, free := d.Pending(), m.Count()
			refuses(t, "overwritten", p, root, i, api.ErrCorrupt)
			if level == 2 {
				x, l, e := Set(p, root, i, []byte("x"))
				if e != api.OK || len(l) != 3 || l[0] != q {
					t.Errorf("Set over a block that has rotted: %v %v %v", x, l, e)
				}
				gets(t, "Set over a block that has rotted", p, x, i, filled([]byte("x")))
				x, l, e = Trim(p, root, i)
				if e != api.OK || len(l) != 3 || l[0] != q {
					t.Errorf("Trim of a block that has rotted: %v %v %v", x, l, e)
				}
				gets(t, "Trim of a block that has rotted", p, x, i, api.Sector{})
				continue
			}
			unset(t, "overwritten", p, root, i, []byte("x"), api.ErrCorrupt)
			untrimmed(t, "overwritten", p, root, i, api.ErrCorrupt)
			unlisted(t, "overwritten", p, root, api.ErrCorrupt)
			away := (i + 16) % 64
			if level == 1 {
				gets(t, "another second NODE", p, root, away, filled(text(10, byte(away+1))))
				x := sets(t, p, root, away, []byte("y"))
				gets(t, "another second NODE", p, x, away, filled([]byte("y")))
				refuses(t, "overwritten, in the new tree too", p, x, i, api.ErrCorrupt)
				continue
			}
			refuses(t, "overwritten", p, root, away, api.ErrCorrupt)
			untrimmed(t, "overwritten", p, root, (i+32)%64, api.ErrCorrupt)
			if d.Pending() != pending || m.Count() != free {
				t.Error("something was done")
			}
		}
	}
}

// P11.1 to P11.4: trees whose pointer isn't Right, or leads to a sector that the device doesn't have.
func TestWrongTrees(t *testing.T) {
	p, d, m := made(100)
	good := grown(t, p, 9)
	var wrong []api.Ptr
	for _, at := range []int{-1, -4, math.MinInt, math.MinInt + 6, 100, 101, 1023, 1024, 4096, 1<<16 + 6, 1<<32 + 6, math.MaxInt} {
		for _, birth := range []uint64{1, 5, api.MaxStamp, api.MaxStamp + 1, math.MaxUint64} {
			wrong = append(wrong, api.Ptr{At: at, Birth: birth, Sum: good.Sum}, api.Ptr{At: at, Birth: birth})
		}
	}
	// Of sectors that are there, with other sums.
	for _, at := range []int{0, 3, 4, 5, 6, 7, 99} {
		wrong = append(wrong, api.Ptr{At: at, Birth: 1, Sum: good.Sum + 1}, api.Ptr{At: at, Birth: 1, Sum: 7})
	}
	pending, free := d.Pending(), m.Count()
	for _, q := range wrong {
		for _, i := range edges {
			refuses(t, "a wrong tree", p, q, i, api.ErrCorrupt)
			unset(t, "a wrong tree", p, q, i, []byte("x"), api.ErrCorrupt)
			untrimmed(t, "a wrong tree", p, q, i, api.ErrCorrupt)
		}
		unlisted(t, "a wrong tree", p, q, api.ErrCorrupt)
	}
	if d.Pending() != pending || m.Count() != free {
		t.Error("something was done")
	}
	// Born never: All looks at nothing, but the others do.
	q := api.Ptr{At: 5000, Sum: 3}
	born(t, "born never", p, q, 0)
	refuses(t, "born never", p, q, 0, api.ErrCorrupt)
	unset(t, "born never", p, q, 0, nil, api.ErrCorrupt)
	untrimmed(t, "born never", p, q, 0, api.ErrCorrupt)
	if l, e := Blocks(p, q); len(l) != 0 || e != api.ErrCorrupt {
		t.Errorf("born never: %v %v", l, e)
	}
}

// P11.2, P11.3: what is REPLACED is told as it stood there, the tree's own pointer too, whether it is Right or not.
func TestReplacedIsToldAsItStood(t *testing.T) {
	p, d, m := made(200)
	for _, at := range []int{8, 9, 99} {
		m.Take(at)
	}
	b := rots(t, d, 9, 7, filled([]byte("b")))
	second := rots(t, d, 8, 8, laid(b))
	for _, at := range []int{0, 3, 99} {
		for _, birth := range []uint64{0, 1, api.MaxStamp, api.MaxStamp + 1, math.MaxUint64} {
			root := rots(t, d, at, birth, laid(second))
			if x, l, e := Set(p, root, 0, nil); !slices.Equal(l, []api.Ptr{b, second, root}) || x.Birth != 1 || e != api.OK {
				t.Errorf("%v: Set: %v %v %v", root, x, l, e)
			}
			if x, l, e := Trim(p, root, 0); !slices.Equal(l, []api.Ptr{b, second, root}) || x != none || e != api.OK {
				t.Errorf("%v: Trim: %v %v %v", root, x, l, e)
			}
			if x, l, e := Set(p, root, 63, nil); !slices.Equal(l, []api.Ptr{root}) || x.Birth != 1 || e != api.OK {
				t.Errorf("%v: Set beside: %v %v %v", root, x, l, e)
			}
		}
	}
}

// P11.1 to P11.4: a NODE whose sector is the Bytes of no eight pointers is ErrCorrupt, not ErrPtr, though its sum is right: as the first and as the second one; as a block it is bytes.
func TestNoNodes(t *testing.T) {
	right := api.Ptr{At: 4, Birth: 1, Sum: 1}
	for _, bad := range []api.Ptr{{At: 3, Birth: 1}, {At: 1024, Birth: 1}, {At: 4, Birth: 0}, {At: 4, Birth: api.MaxStamp + 1}, {At: 0, Birth: 0, Sum: 1}, {At: 0, Birth: 1}, {At: math.MaxUint32, Birth: math.MaxUint64, Sum: math.MaxUint32}} {
		for place := range 8 {
			p, d, m := made(100)
			l := slices.Repeat([]api.Ptr{right, none}, 4)
			l[place] = bad
			no := rots(t, d, 90, 2, laid(l...))
			second := rots(t, d, 91, 2, laid(no))
			trees := []api.Ptr{no, rots(t, d, 92, 2, laid(no)), rots(t, d, 93, 2, laid(second))}
			for _, root := range trees[:2] {
				for _, i := range []int{0, 7} {
					refuses(t, "no NODE", p, root, i, api.ErrCorrupt)
					unset(t, "no NODE", p, root, i, nil, api.ErrCorrupt)
					untrimmed(t, "no NODE", p, root, i, api.ErrCorrupt)
				}
				unlisted(t, "no NODE", p, root, api.ErrCorrupt)
				born(t, "no NODE, not looked at", p, root, 2)
			}
			gets(t, "another second NODE", p, trees[1], 8, api.Sector{})
			gets(t, "a block that is no NODE", p, trees[2], 0, laid(l...))
			born(t, "a block that is no NODE", p, trees[2], 0, trees[2], second, no)
			taken(t, "no NODE", m, 0)
		}
	}
	p, _, _ := made(100)
	root := grown(t, p, 0)
	l, _ := All(p, root, 0)
	// A block in a NODE's place: text is no pointers.
	refuses(t, "a block as the tree", p, l[2], 0, api.ErrCorrupt)
	refuses(t, "a second NODE as the tree", p, l[1], 0, api.ErrCorrupt)
	unlisted(t, "a block as the tree", p, l[2], api.ErrCorrupt)
	unlisted(t, "a second NODE as the tree", p, l[1], api.ErrCorrupt)
}

// P11.2, P11.3: the order in which errors are asked for, where two hold at once.
func TestOrderOfErrors(t *testing.T) {
	p, d, m := made(100)
	root := grown(t, p, 0, 9, 10)
	stable(t, d)
	long := make([]byte, 129)
	bad := api.Ptr{At: root.At, Birth: 1, Sum: root.Sum + 1}
	unset(t, "no block, too long", p, root, 64, long, api.ErrIndex)
	unset(t, "no block, too long, corrupt", p, bad, -1, long, api.ErrIndex)
	unset(t, "too long, corrupt", p, bad, 0, long, api.ErrBlock)
	untrimmed(t, "no block, corrupt", p, bad, 64, api.ErrIndex)
	refuses(t, "no block, corrupt", p, bad, 64, api.ErrIndex)
	leaves(t, m, 0)
	unset(t, "no block, no room", p, root, 64, nil, api.ErrIndex)
	unset(t, "too long, no room", p, root, 0, long, api.ErrBlock)
	unset(t, "corrupt, no room", p, bad, 0, nil, api.ErrCorrupt)
	unset(t, "no room", p, root, 0, nil, api.ErrSpace)
	untrimmed(t, "no block, no room", p, root, 64, api.ErrIndex)
	untrimmed(t, "corrupt, no room", p, bad, 9, api.ErrCorrupt)
	untrimmed(t, "a HOLE, no room", p, root, 11, api.OK)
	untrimmed(t, "no room", p, root, 9, api.ErrSpace)
	d.Break(0) // what is read is still had
	unset(t, "no room, no power for a write", p, root, 0, nil, api.ErrSpace)
	untrimmed(t, "no room, no power for a write", p, root, 9, api.ErrSpace)
	if d.Dead() {
		t.Error("something was written")
	}
	dies(t, d)
	unset(t, "no block, no power", p, root, 64, nil, api.ErrIndex)
	unset(t, "too long, no power", p, root, 0, long, api.ErrBlock)
	unset(t, "no power, no room", p, root, 0, nil, api.ErrPower)
	unset(t, "a HOLE, no power, no room", p, none, 0, nil, api.ErrSpace)
	unset(t, "a sector that isn't there, no power, no room", p, api.Ptr{At: 100, Birth: 1}, 0, nil, api.ErrCorrupt)
	untrimmed(t, "no power, no room", p, root, 9, api.ErrPower)
	untrimmed(t, "no power, a HOLE", p, root, 11, api.ErrPower)
	untrimmed(t, "a HOLE, no power, no room", p, none, 9, api.OK)
	refuses(t, "no power", p, root, 0, api.ErrPower)
	refuses(t, "no power, corrupt", p, bad, 0, api.ErrPower)
	refuses(t, "no power, a sector that isn't there", p, api.Ptr{At: 100, Birth: 1}, 0, api.ErrCorrupt)
	unlisted(t, "no power", p, root, api.ErrPower)
	unlisted(t, "no power, corrupt", p, bad, api.ErrPower)
	unlisted(t, "no power, a sector that isn't there", p, api.Ptr{At: 100, Birth: 1}, api.ErrCorrupt)
	m.Free(50)
	m.Free(51)
	m.Free(52)
	unset(t, "a HOLE, no power", p, none, 0, nil, api.ErrPower)
	d.Crash()
	for _, i := range []int{0, 9, 10} {
		gets(t, "behind the crash", p, root, i, filled(text(10, byte(i+1))))
	}
}

// P11.2: the map may have more sectors than the device: the first error of a Put is the answer, and the tree is as it was.
func TestSetBeyondTheDevice(t *testing.T) {
	for sectors := 4; sectors < 8; sectors++ {
		d, m := vdev.New(sectors), slab.New(50)
		p := pile.New(d, m, 1, 0)
		x, l, e := Set(p, none, 9, []byte("x"))
		if sectors == 7 {
			if x.At != 6 || len(l) != 0 || e != api.OK {
				t.Errorf("of %v sectors: %v %v %v", sectors, x, l, e)
			}
			unset(t, "beyond the device", p, x, 9, nil, api.ErrSector)
			continue
		}
		if x != none || len(l) != 0 || e != api.ErrSector || d.Pending() != sectors-4 {
			t.Errorf("of %v sectors: %v %v %v, %v writes", sectors, x, l, e, d.Pending())
		}
	}
}

// P11.2: the power goes at each step of a Set; the tree that was is had behind the crash, and the new one, if all of it was kept.
func TestBreakInSet(t *testing.T) {
	for _, was := range [][]int{nil, {0}, {9}, {10, 63}, edges} {
		for n := range 4 {
			for keep := range 1 << n {
				p, d, m := made(100)
				root := grown(t, p, was...)
				stable(t, d)
				p.Next()
				d.Break(n)
				x, l, e := Set(p, root, 9, []byte("x"))
				if n < 3 && (x != root || len(l) != 0 || e != api.ErrPower || !d.Dead() || d.Pending() != n) {
					t.Errorf("%v, behind a Break of %v: %v %v %v", was, n, x, l, e)
				}
				if n == 3 && (e != api.OK || d.Dead()) {
					t.Errorf("%v, behind a Break of %v: %v %v %v", was, n, x, l, e)
				}
				var kept []bool
				for i := range n {
					kept = append(kept, keep>>i&1 == 1)
				}
				d.Crash(kept...)
				p = pile.New(d, m, 2, 0)
				for i := range 64 {
					want := api.Sector{}
					if slices.Contains(was, i) {
						want = filled(text(10, byte(i+1)))
					}
					gets(t, "the tree that was", p, root, i, want)
				}
				holds(t, "the tree that was", p, root, was...)
				if n < 3 {
					continue
				}
				if keep == 7 {
					gets(t, "all was kept", p, x, 9, filled([]byte("x")))
				} else {
					refuses(t, "not all was kept", p, x, 9, api.ErrCorrupt)
				}
				if keep&6 == 6 {
					born(t, "the NODES were kept", p, x, 1, x, to(5+3*len(was), 2, secondOf(t, d, x, 9)), to(4+3*len(was), 2, filled([]byte("x"))))
				} else {
					unlisted(t, "a NODE wasn't kept", p, x, api.ErrCorrupt)
				}
			}
		}
	}
}

// secondOf is the sector of the second NODE above a block.
func secondOf(t *testing.T, d *vdev.Dev, root api.Ptr, i int) api.Sector {
	t.Helper()
	first, e := d.Read(root.At)
	s, f := d.Read(told(first)[i/8].At)
	if e != api.OK || f != api.OK {
		t.Fatalf("%v %v", e, f)
	}
	return s
}

// P11.3: the power goes at each step of a Trim; the tree that was is had behind the crash.
func TestBreakInTrim(t *testing.T) {
	for _, c := range []struct {
		was    []int
		writes int
	}{{[]int{9}, 0}, {[]int{9, 0}, 1}, {[]int{9, 10}, 2}, {whole(), 2}} {
		for n := range 3 {
			p, d, m := made(400)
			root := grown(t, p, c.was...)
			stable(t, d)
			d.Break(n)
			x, l, e := Trim(p, root, 9)
			if n < c.writes {
				if x != root || len(l) != 0 || e != api.ErrPower || !d.Dead() {
					t.Errorf("%v, behind a Break of %v: %v %v %v", c.was, n, x, l, e)
				}
				d.Crash()
			} else if len(l) != 3 || e != api.OK || d.Dead() || d.Pending() != c.writes {
				t.Errorf("%v, behind a Break of %v: %v %v %v", c.was, n, x, l, e)
			} else {
				d.Crash(true, true)
				gets(t, "trimmed", p, x, 9, api.Sector{})
				if (x == none) != (c.writes == 0) {
					t.Errorf("%v: %v", c.was, x)
				}
			}
			p = pile.New(d, m, 1, 0)
			for _, i := range c.was {
				gets(t, "the tree that was", p, root, i, filled(text(10, byte(i+1))))
			}
		}
	}
}

// P11.1 to P11.4: behind a Break that hasn't come yet all is read; without power nothing, but of HOLES; behind the Crash all again.
func TestReadsBehindABreak(t *testing.T) {
	p, d, m := made(100)
	root := grown(t, p, 9)
	stable(t, d)
	d.Break(0)
	gets(t, "ahead of the end", p, root, 9, filled(text(10, 10)))
	holds(t, "ahead of the end", p, root, 9)
	untrimmed(t, "ahead of the end", p, root, 10, api.OK)
	if x, l, e := Trim(p, root, 9); x != none || len(l) != 3 || e != api.OK || d.Dead() {
		t.Errorf("Trim that writes nothing: %v %v %v", x, l, e)
	}
	unset(t, "the end", p, root, 9, nil, api.ErrPower)
	all := span.Count(m.Taken())
	for _, i := range edges {
		refuses(t, "no power", p, root, i, api.ErrPower)
		unset(t, "no power", p, root, i, nil, api.ErrPower)
		untrimmed(t, "no power", p, root, i, api.ErrPower)
		gets(t, "no power, a HOLE", p, none, i, api.Sector{})
		untrimmed(t, "no power, a HOLE", p, none, i, api.OK)
	}
	unlisted(t, "no power", p, root, api.ErrPower)
	born(t, "no power, not looked at", p, root, 1)
	taken(t, "nothing was put", m, all)
	d.Crash()
	gets(t, "behind the crash", p, root, 9, filled(text(10, 10)))
	holds(t, "behind the crash", p, root, 9)
	x := sets(t, pile.New(d, m, 2, 0), root, 8, []byte("x"))
	holds(t, "behind the crash", p, x, 8, 9)
}

// P11.2: what is handed in isn't changed, spare room included, and not kept.
func TestWhatIsHandedIn(t *testing.T) {
	p, _, _ := made(100)
	room := bytes.Repeat([]byte{7}, 300)
	root := sets(t, p, none, 9, room[10:13:200])
	x := sets(t, p, root, 9, room[10:138])
	if !bytes.Equal(room, bytes.Repeat([]byte{7}, 300)) {
		t.Error("what was handed in has changed")
	}
	for i := range room {
		room[i] = 99
	}
	gets(t, "written over", p, root, 9, api.Sector{7, 7, 7})
	gets(t, "written over", p, x, 9, filled(bytes.Repeat([]byte{7}, 128)))
	stays := root
	root.At = 9
	gets(t, "a pointer written over", p, stays, 9, api.Sector{7, 7, 7})
}

// P11.1 to P11.4: what came back is new memory, spare room too: the caller may write it over.
func TestWhatCameBack(t *testing.T) {
	p, _, _ := made(100)
	root := grown(t, p, 0, 9, 63)
	spoil := func(l []api.Ptr) {
		l = l[:cap(l)]
		for i := range l {
			l[i] = api.Ptr{At: 77, Birth: 77, Sum: 77}
		}
	}
	for range 3 {
		all, _ := All(p, root, 0)
		want := slices.Clone(all)
		spoil(all)
		born(t, "All written over", p, root, 0, want...)
		blocks, _ := Blocks(p, root)
		blocks = blocks[:cap(blocks)]
		for i := range blocks {
			blocks[i] = 77
		}
		holds(t, "Blocks written over", p, root, 0, 9, 63)
		s, _ := Get(p, root, 9)
		s[0] = 77
		gets(t, "a block written over", p, root, 9, filled(text(10, 10)))
		x, l, _ := Set(p, root, 9, []byte("x"))
		spoil(l)
		y, k, _ := Trim(p, root, 9)
		spoil(k)
		gets(t, "REPLACED written over", p, x, 9, filled([]byte("x")))
		holds(t, "REPLACED written over", p, y, 0, 63)
		born(t, "REPLACED written over", p, root, 0, want...)
	}
}

// P11.2, P11.3: the stamps at their ends: what is put bears the Pile's.
func TestStampsAtTheirEnds(t *testing.T) {
	for _, c := range []struct{ stamp, base uint64 }{{1, 0}, {1, api.MaxStamp}, {2, 1}, {1 << 32, 1<<32 - 1}, {api.MaxStamp - 1, 0}, {api.MaxStamp, 0}, {api.MaxStamp, api.MaxStamp}} {
		d, m := vdev.New(100), slab.New(100)
		p := pile.New(d, m, c.stamp, c.base)
		root := grown(t, p, 9, 10)
		l, e := All(p, root, c.stamp-1)
		if len(l) != 4 || e != api.OK || slices.ContainsFunc(l, func(q api.Ptr) bool { return q.Birth != c.stamp }) {
			t.Errorf("stamp %v: %v %v", c.stamp, l, e)
		}
		born(t, "at the stamp", p, root, c.stamp)
		x, k, e := Trim(p, root, 9)
		if x.Birth != c.stamp || len(k) != 3 || e != api.OK {
			t.Errorf("stamp %v: %v %v %v", c.stamp, x, k, e)
		}
		if p.Stamp() != c.stamp || p.Base() != c.base {
			t.Errorf("the stamps have changed: %v %v", p.Stamp(), p.Base())
		}
		taken(t, "nothing is dropped", m, 8)
	}
}

// P11.2, P11.3, layer 9: what was REPLACED is the caller's: once it is dropped, the rest is still had.
func TestDropOfWhatWasReplaced(t *testing.T) {
	p, _, m := made(100)
	root := none
	blocks := map[int]byte{}
	for n := range 500 {
		i := n * 37 % 64 / (n%3 + 1)
		var l []api.Ptr
		var e api.Errno
		if n%4 == 3 {
			root, l, e = Trim(p, root, i)
			delete(blocks, i)
		} else {
			root, l, e = Set(p, root, i, []byte{byte(n%250 + 1)})
			blocks[i] = byte(n%250 + 1)
		}
		if e == api.ErrSpace {
			t.Fatalf("step %v: %v", n, e)
		}
		for _, q := range l {
			if e := p.Drop(q); e != api.OK {
				t.Fatalf("step %v: Drop of %v: %v", n, q, e)
			}
		}
		all, _ := All(p, root, 0)
		taken(t, "just what the tree has", m, len(all))
		for k := range 64 {
			gets(t, "a step", p, root, k, api.Sector{blocks[k]})
		}
		if t.Failed() {
			t.Fatalf("step %v", n)
		}
	}
}

// P20.10, as far as it hangs on this layer: few sectors are read and written.
func TestFewOps(t *testing.T) {
	p, d, _ := made(400)
	root := grown(t, p, whole()...)
	for _, c := range []struct {
		why  string
		most int
		do   func()
	}{
		{"Get", 3, func() { Get(p, root, 9) }},
		{"Set", 5, func() { Set(p, root, 9, nil) }},
		{"Trim", 4, func() { Trim(p, root, 9) }},
		{"All", 9, func() { All(p, root, 0) }},
		{"Blocks", 9, func() { Blocks(p, root) }},
	} {
		was := d.Ops()
		c.do()
		if n := d.Ops() - was; n > c.most {
			t.Errorf("%v: %v", c.why, n)
		}
	}
}

// P1: every call ends and none panics, of stamps that can't be, too.
func TestNoPanic(t *testing.T) {
	ends := []uint64{0, 1, api.MaxStamp, api.MaxStamp + 1, 1 << 63, math.MaxUint64}
	for _, stamp := range ends {
		for _, sectors := range [][2]int{{0, 0}, {0, 1024}, {1024, 0}, {math.MinInt, math.MaxInt}, {5, 1024}, {60, 60}} {
			d, m := vdev.New(sectors[0]), slab.New(sectors[1])
			p := pile.New(d, m, stamp, 0)
			roots := []api.Ptr{none, {At: 4, Birth: 1}, {At: math.MinInt, Birth: math.MaxUint64, Sum: math.MaxUint32}, {At: math.MaxInt}, {Sum: 1}, {Birth: 1}}
			for _, i := range append(slices.Clone(nowhere), edges...) {
				for _, root := range roots {
					for _, b := range [][]byte{nil, text(128, 9), make([]byte, 129)} {
						x, _, _ := Set(p, root, i, b)
						y, _, _ := Trim(p, x, i)
						Get(p, y, i)
						for _, behind := range ends {
							All(p, x, behind)
						}
						Blocks(p, x)
					}
				}
				if i%7 == 0 {
					p.Next()
				}
			}
		}
	}
}

// plainNode is a NODE's pointers, as the chapters tell word by word, by layer 9's Get.
func plainNode(p *pile.Pile, q api.Ptr) ([8]api.Ptr, api.Errno) {
	s, e := p.Get(q)
	if e != 0 {
		return [8]api.Ptr{}, e
	}
	l := told(s)
	for _, q := range l {
		if q != none && (q.At < 4 || q.At > 1023 || q.Birth < 1 || q.Birth > 1<<48-1) {
			return [8]api.Ptr{}, 91
		}
	}
	return l, 0
}

// plainWay is the first NODE, the second one above a block, and the first error of them.
func plainWay(p *pile.Pile, root api.Ptr, i int) (first, second [8]api.Ptr, e api.Errno) {
	if first, e = plainNode(p, root); e != 0 {
		return first, second, e
	}
	second, e = plainNode(p, first[i/8])
	return first, second, e
}

func plainGet(p *pile.Pile, root api.Ptr, i int) (api.Sector, api.Errno) {
	if i < 0 || i > 63 {
		return api.Sector{}, 111
	}
	_, second, e := plainWay(p, root, i)
	if e != 0 {
		return api.Sector{}, e
	}
	return p.Get(second[i%8])
}

// plainPut is a NODE put, or a HOLE, if it has nothing but these.
func plainPut(p *pile.Pile, l [8]api.Ptr) (api.Ptr, api.Errno) {
	if l == [8]api.Ptr{} {
		return none, 0
	}
	s := laid(l[:]...)
	return p.Put(s[:])
}

// plainChange is Set, or Trim, if there is nothing to set; put tells whether it came as far as to a Put that failed.
func plainChange(p *pile.Pile, root api.Ptr, i int, b []byte, trim bool) (x api.Ptr, l []api.Ptr, e api.Errno, put bool) {
	if i < 0 || i > 63 {
		return root, nil, 111, false
	}
	if !trim && len(b) > 128 {
		return root, nil, 92, false
	}
	first, second, e := plainWay(p, root, i)
	if e != 0 {
		return root, nil, e, false
	}
	if trim && second[i%8] == none {
		return root, nil, 0, false
	}
	for _, q := range []api.Ptr{second[i%8], first[i/8], root} {
		if q != none {
			l = append(l, q)
		}
	}
	wanted, others := 3, 0
	if trim {
		wanted = 0
		for k, q := range second {
			if q != none && k != i%8 {
				wanted = 2
			}
		}
		for k, q := range first {
			if q != none && k != i/8 {
				others++
			}
		}
		if wanted == 0 && others > 0 {
			wanted = 1
		}
	}
	if p.Map().Count() < wanted {
		return root, nil, 71, false
	}
	q := none
	if !trim {
		if q, e = p.Put(b); e != 0 {
			return root, nil, e, true
		}
	}
	second[i%8] = q
	if q, e = plainPut(p, second); e != 0 {
		return root, nil, e, true
	}
	first[i/8] = q
	if q, e = plainPut(p, first); e != 0 {
		return root, nil, e, true
	}
	return q, l, 0, false
}

// plainAll is what was born behind the stamp, from a pointer so many levels above the blocks down.
func plainAll(p *pile.Pile, q api.Ptr, levels int, stamp uint64) ([]api.Ptr, api.Errno) {
	if q == none || q.Birth <= stamp {
		return nil, 0
	}
	l := []api.Ptr{q}
	if levels == 0 {
		return l, 0
	}
	n, e := plainNode(p, q)
	if e != 0 {
		return nil, e
	}
	for _, c := range n {
		k, e := plainAll(p, c, levels-1, stamp)
		if e != 0 {
			return nil, e
		}
		l = append(l, k...)
	}
	return l, 0
}

func plainBlocks(p *pile.Pile, root api.Ptr) ([]int, api.Errno) {
	var l []int
	for i := range 64 {
		_, second, e := plainWay(p, root, i)
		if e != 0 {
			return nil, e
		}
		if second[i%8] != none {
			l = append(l, i)
		}
	}
	return l, 0
}

// twins are two piles that are alike: on the one the package works, on the other one the words of the chapter.
type twins struct {
	p, o *pile.Pile
}

// alike: have both the same sectors, taken and waiting ones, and the same power?
func (w twins) alike(t *testing.T, why string) {
	t.Helper()
	d, k := w.p.Dev(), w.o.Dev()
	if !slices.Equal(w.p.Map().Taken(), w.o.Map().Taken()) || !slices.Equal(w.p.Map().Waiting(), w.o.Map().Waiting()) || d.Dead() != k.Dead() || d.Pending() != k.Pending() || w.p.Stamp() != w.o.Stamp() {
		t.Fatalf("%v: %v are taken, not %v; %v writes, not %v", why, w.p.Map().Taken(), w.o.Map().Taken(), d.Pending(), k.Pending())
	}
	for i := range d.Len() {
		s, _ := d.Read(i)
		if r, _ := k.Read(i); s != r {
			t.Fatalf("%v: sector %v: %v, not %v", why, i, s, r)
		}
	}
}

// again makes both anew as they are in what is stable, behind a crash.
func (w *twins) again(keep bool) {
	d, k := w.p.Dev(), w.o.Dev()
	d.Crash(slices.Repeat([]bool{keep}, d.Pending())...)
	k.Crash()
	for i := range d.Len() {
		k.Rot(i, d.Stable(i))
	}
	w.p = pile.New(d, w.p.Map().Copy(), w.p.Stamp(), w.p.Base())
	w.o = pile.New(k, w.p.Map().Copy(), w.p.Stamp(), w.p.Base())
}

// P11.1 to P11.4: long mixed runs, held against the words of the chapter: on trees old and new, with little room and much, with sectors that rot and power that goes.
func TestMixedRuns(t *testing.T) {
	seed := uint32(17)
	next := func(n int) int {
		seed = seed*1664525 + 1013904223
		return int(seed>>8) % n
	}
	reached := map[api.Errno]int{}
	for _, c := range [][2]int{{0, 0}, {10, 10}, {30, 30}, {64, 64}, {64, 100}, {130, 130}, {300, 300}, {1024, 1024}} {
		d, k := vdev.New(c[0]), vdev.New(c[0])
		w := twins{pile.New(d, slab.New(c[1]), 1, 0), pile.New(k, slab.New(c[1]), 1, 0)}
		trees := []api.Ptr{none}
		for round := range 4000 {
			root := trees[next(len(trees))]
			if next(3) > 0 {
				root = trees[len(trees)-1]
			}
			i := next(64)
			if next(3) > 0 {
				i = []int{0, 1, 7, 8, 9, 63}[next(6)]
			}
			if next(40) == 0 {
				i = nowhere[next(len(nowhere))]
			}
			switch next(16) {
			case 0, 1, 2, 3, 4, 5, 6, 7:
				b := text(next(7)*22, byte(next(3)))
				trim := next(3) == 0
				var x api.Ptr
				var l []api.Ptr
				var e api.Errno
				if trim {
					x, l, e = Trim(w.p, root, i)
				} else {
					x, l, e = Set(w.p, root, i, b)
				}
				y, m, f, put := plainChange(w.o, root, i, b, trim)
				if x != y || !slices.Equal(l, m) || e != f {
					t.Fatalf("%v, round %v, block %v, trim %v: %v %v %v, not %v %v %v", c, round, i, trim, x, l, e, y, m, f)
				}
				reached[e]++
				if put {
					w.again(next(2) == 0)
					continue
				}
				if e == api.OK {
					trees = append(trees, x)
				}
				if next(2) == 0 {
					for _, q := range l {
						w.p.Drop(q)
						w.o.Drop(q)
					}
				}
			case 8, 9, 10:
				s, e := Get(w.p, root, i)
				if r, f := plainGet(w.o, root, i); s != r || e != f {
					t.Fatalf("%v, round %v: Get of block %v: %v %v, not %v %v", c, round, i, s, e, r, f)
				}
			case 11, 12:
				stamp := uint64(max(0, int(root.Birth)-next(6)+1))
				l, e := All(w.p, root, stamp)
				if m, f := plainAll(w.o, root, 2, stamp); !slices.Equal(l, m) || e != f {
					t.Fatalf("%v, round %v: All behind %v: %v %v, not %v %v", c, round, stamp, l, e, m, f)
				}
				n, e := Blocks(w.p, root)
				if m, f := plainBlocks(w.o, root); !slices.Equal(n, m) || e != f {
					t.Fatalf("%v, round %v: Blocks: %v %v, not %v %v", c, round, n, e, m, f)
				}
			case 13:
				w.p.Next()
				w.o.Next()
				if next(4) == 0 {
					w.p.Commit()
					w.o.Commit()
				}
			case 14:
				at := max(0, root.At) - next(4)
				s := d.Stable(max(0, at-1))
				if next(8) == 0 {
					d.Rot(at, s)
					k.Rot(at, s)
				}
			case 15:
				n := next(25) - 1
				if next(2) > 0 {
					n = -1
				}
				d.Break(n)
				k.Break(n)
				if d.Dead() || next(30) == 0 {
					w.again(next(2) == 0)
				}
				if next(10) == 0 { // room again: what no tree is asked of any more may be overwritten
					m := slab.New(c[1])
					m.Many(next(c[1] + 1))
					w.p = pile.New(d, m, w.p.Stamp(), w.p.Base())
					w.o = pile.New(k, m.Copy(), w.p.Stamp(), w.p.Base())
				}
			}
			if round%20 == 0 {
				w.alike(t, "a mixed run")
			}
		}
		w.alike(t, "the end of a mixed run")
	}
	for _, e := range []api.Errno{api.OK, api.ErrIndex, api.ErrBlock, api.ErrSpace, api.ErrCorrupt, api.ErrPower, api.ErrSector} {
		if reached[e] < 50 {
			t.Errorf("error %v came %v times alone", e, reached[e])
		}
	}
}
