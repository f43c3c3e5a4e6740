package ptr

import (
	"bytes"
	"encoding/binary"
	"math"
	"slices"
	"testing"

	"aquifer/api"
)

const greatest = 1<<48 - 1 // the greatest stamp

var (
	rightAts    = []int{4, 5, 63, 64, 255, 256, 257, 512, 1022, 1023}
	wrongAts    = []int{0, 1, 2, 3, 1024, 1025, 4096, 65536 + 4, 1 << 31, 1<<32 + 4, 1<<32 + 1023, 1<<62 + 4, math.MaxInt, -1, -4, -1023, -1 << 32, math.MinInt, math.MinInt + 4}
	rightBirths = []uint64{1, 2, 255, 256, 1 << 32, 1<<32 + 1, 1 << 47, greatest - 1, greatest}
	wrongBirths = []uint64{0, 1 << 48, 1<<48 + 1, 1 << 49, 1 << 63, 1<<63 + 1, math.MaxUint64}
	sums        = []uint32{0, 1, 0xE3069283, 1 << 31, math.MaxUint32}
)

// each goes through all pointers of these parts.
func each(ats []int, births []uint64, do func(p api.Ptr)) {
	for _, at := range ats {
		for _, birth := range births {
			for _, sum := range sums {
				do(api.Ptr{At: at, Birth: birth, Sum: sum})
			}
		}
	}
}

// rights are pointers that can be, a hole among them.
func rights() []api.Ptr {
	l := []api.Ptr{{}}
	each(rightAts, rightBirths, func(p api.Ptr) { l = append(l, p) })
	return l
}

// wrongs are pointers that can't be: of a wrong sector, of a wrong birth, of both.
func wrongs() []api.Ptr {
	var l []api.Ptr
	add := func(p api.Ptr) {
		if p != (api.Ptr{}) {
			l = append(l, p)
		}
	}
	each(wrongAts, rightBirths, add)
	each(rightAts, wrongBirths, add)
	each(wrongAts, wrongBirths, add)
	return l
}

// laid is a pointer's parts as bytes, whether it can be or not.
func laid(at uint32, birth uint64, sum uint32) []byte {
	b := binary.LittleEndian.AppendUint32(nil, at)
	b = binary.LittleEndian.AppendUint64(b, birth)
	return binary.LittleEndian.AppendUint32(b, sum)
}

// refused: does Read take these bytes for no pointer?
func refused(t *testing.T, b []byte) {
	t.Helper()
	if p, e := Read(b); e != api.ErrPtr || p != (api.Ptr{}) {
		t.Errorf("Read %v: %v %v", b, p, e)
	}
}

// The section Errors: its number.
func TestErrors(t *testing.T) {
	if _, e := Bytes(api.Ptr{At: 9}); e != 51 {
		t.Errorf("Bytes of a pointer that can't be: %v", e)
	}
	if _, e := Read(nil); e != 51 {
		t.Errorf("Read of no bytes: %v", e)
	}
}

// P5.1: a hole is Right, and what has both a sector and a birth that can be, whatever its sum.
func TestRight(t *testing.T) {
	for _, p := range rights() {
		if !Right(p) {
			t.Errorf("%v isn't Right", p)
		}
	}
	for _, p := range wrongs() {
		if Right(p) {
			t.Errorf("%v is Right", p)
		}
	}
}

// P5.1: the sectors from 4 to 1023 can be, and no others.
func TestRightOfAllSectors(t *testing.T) {
	for at := -2000; at < 5000; at++ {
		if want := at > 3 && at < 1024; Right(api.Ptr{At: at, Birth: 7, Sum: 9}) != want {
			t.Errorf("a pointer to %v: not %v", at, want)
		}
	}
}

// P5.1: of a pointer without birth, or without sector, none but a hole is Right.
func TestRightOfZeros(t *testing.T) {
	for _, p := range []api.Ptr{{At: 4}, {At: 1023}, {At: 3}, {At: -1}, {Birth: 1}, {Birth: greatest}, {Sum: 1}, {Sum: math.MaxUint32},
		{At: 4, Sum: 1}, {Birth: 1, Sum: 1}} {
		if Right(p) {
			t.Errorf("%v is Right", p)
		}
	}
	if !Right(api.Ptr{At: 4, Birth: 1}) || !Right(api.Ptr{}) {
		t.Error("a pointer without sum isn't Right, or a hole isn't")
	}
}

// P5.1: Since asks whether the birth is above the stamp, of pointers that can't be, too, wherever they lead.
func TestSince(t *testing.T) {
	for _, c := range []struct {
		birth, stamp uint64
		want         bool
	}{
		{1, 0, true}, {1, 1, false}, {1, 2, false},
		{5, 4, true}, {5, 5, false}, {5, 6, false},
		{greatest, greatest - 1, true}, {greatest, greatest, false}, {greatest, greatest + 1, false},
		{1 << 48, greatest, true}, {1, 1 << 32, false}, {1 << 32, 1, true}, {1<<32 + 1, 1 << 32, true},
		{1, 1 << 63, false}, {1 << 63, 1, true}, {1, math.MaxUint64, false}, {math.MaxUint64, 1, true},
		{math.MaxUint64, math.MaxUint64 - 1, true}, {math.MaxUint64, math.MaxUint64, false},
		{0, 0, false}, {0, 1, false}, {0, math.MaxUint64, false},
	} {
		each(append(wrongAts, rightAts...), []uint64{c.birth}, func(p api.Ptr) {
			if Since(p, c.stamp) != c.want {
				t.Errorf("%v since %v: not %v", p, c.stamp, c.want)
			}
		})
	}
}

// P5.1: no hole was born, at any stamp.
func TestSinceOfAHole(t *testing.T) {
	for _, stamp := range []uint64{0, 1, greatest, 1 << 63, math.MaxUint64} {
		if Since(api.Ptr{}, stamp) {
			t.Errorf("a hole since %v", stamp)
		}
	}
}

// P5.1: by birth, then by sector, then by sum: of a list that rises each is Less than those behind it, and than no other.
func TestLess(t *testing.T) {
	list := []api.Ptr{
		{At: math.MinInt, Sum: math.MaxUint32},
		{At: -1, Sum: 5},
		{},
		{Sum: 1},
		{Sum: 1 << 31},
		{At: 9},
		{At: math.MaxInt},
		{At: -7, Birth: 1},
		{At: 4, Birth: 1},
		{At: 4, Birth: 1, Sum: 1},
		{At: 4, Birth: 1, Sum: math.MaxUint32},
		{At: 5, Birth: 1},
		{At: 1023, Birth: 1, Sum: 3},
		{At: 4, Birth: 2},
		{At: 8, Birth: 2, Sum: 2},
		{At: 9, Birth: 2, Sum: 1},
		{At: 9, Birth: 2, Sum: 2},
		{At: 1 << 32, Birth: 2},
		{At: 4, Birth: 1 << 32},
		{At: 1023, Birth: greatest - 1, Sum: math.MaxUint32},
		{At: 4, Birth: greatest},
		{At: 1023, Birth: greatest},
		{At: 4, Birth: 1 << 48},
		{At: 4, Birth: 1 << 63},
		{At: -1, Birth: math.MaxUint64},
		{At: 4, Birth: math.MaxUint64, Sum: 7},
	}
	for i, p := range list {
		for j, q := range list {
			if Less(p, q) != (i < j) {
				t.Errorf("Less of %v and %v: not %v", p, q, i < j)
			}
		}
	}
}

// P5.1: of pointers that are alike in all but one part the lesser part decides, and what is alike in all isn't Less.
func TestLessOfOnePart(t *testing.T) {
	for _, p := range rights() {
		if Less(p, p) {
			t.Errorf("%v is Less than itself", p)
		}
		for _, q := range []api.Ptr{
			{At: p.At + 1, Birth: p.Birth, Sum: p.Sum},
			{At: p.At, Birth: p.Birth + 1, Sum: p.Sum},
			{At: p.At - 1, Birth: p.Birth + 1, Sum: p.Sum},
			{At: p.At, Birth: p.Birth + 1, Sum: ^p.Sum},
			{At: p.At + 1, Birth: p.Birth, Sum: ^p.Sum},
		} {
			if !Less(p, q) || Less(q, p) {
				t.Errorf("%v and %v: %v %v", p, q, Less(p, q), Less(q, p))
			}
		}
		if p.Sum > 0 {
			q := api.Ptr{At: p.At, Birth: p.Birth, Sum: p.Sum - 1}
			if Less(p, q) || !Less(q, p) {
				t.Errorf("%v and %v: %v %v", p, q, Less(p, q), Less(q, p))
			}
		}
	}
}

// P5.2: bytes of pointers, written out.
func TestKnownBytes(t *testing.T) {
	for _, c := range []struct {
		p    api.Ptr
		want string
	}{
		{api.Ptr{}, "\x00\x00\x00\x00\x00\x00\x00\x00\x00\x00\x00\x00\x00\x00\x00\x00"},
		{api.Ptr{At: 4, Birth: 1}, "\x04\x00\x00\x00\x01\x00\x00\x00\x00\x00\x00\x00\x00\x00\x00\x00"},
		{api.Ptr{At: 1023, Birth: greatest, Sum: math.MaxUint32}, "\xff\x03\x00\x00\xff\xff\xff\xff\xff\xff\x00\x00\xff\xff\xff\xff"},
		{api.Ptr{At: 0x102, Birth: 0x030405060708, Sum: 0x090a0b0c}, "\x02\x01\x00\x00\x08\x07\x06\x05\x04\x03\x00\x00\x0c\x0b\x0a\x09"},
	} {
		if b, e := Bytes(c.p); string(b) != c.want || e != api.OK {
			t.Errorf("Bytes of %v: %v %v", c.p, b, e)
		}
		if p, e := Read([]byte(c.want)); p != c.p || e != api.OK {
			t.Errorf("Read %v: %v %v", []byte(c.want), p, e)
		}
	}
}

// P5.2: of each pointer that is Right its parts are the bytes, and Read tells it again.
func TestBytesAndRead(t *testing.T) {
	for _, p := range rights() {
		want := laid(uint32(p.At), p.Birth, p.Sum)
		b, e := Bytes(p)
		if !bytes.Equal(b, want) || e != api.OK {
			t.Errorf("Bytes of %v: %v %v", p, b, e)
		}
		if q, e := Read(want); q != p || e != api.OK {
			t.Errorf("Read of %v: %v %v", p, q, e)
		}
	}
}

// P5.2: ErrPtr and no bytes of what isn't Right.
func TestBytesOfWrongOnes(t *testing.T) {
	for _, p := range wrongs() {
		if b, e := Bytes(p); e != api.ErrPtr || len(b) != 0 {
			t.Errorf("Bytes of %v: %v %v", p, b, e)
		}
	}
}

// P5.2: just sixteen bytes are read: a piece of a pointer's bytes is none, nor is more than that.
func TestReadOfOtherSizes(t *testing.T) {
	refused(t, nil)
	refused(t, []byte{})
	for _, p := range []api.Ptr{{}, {At: 4, Birth: 1}, {At: 1023, Birth: greatest, Sum: math.MaxUint32}} {
		whole := laid(uint32(p.At), p.Birth, p.Sum)
		for size := range 16 {
			refused(t, whole[:size])
			refused(t, whole[16-size:])
		}
		for more := 1; more < 50; more++ {
			refused(t, append(bytes.Clone(whole), make([]byte, more)...))
			refused(t, append(make([]byte, more), whole...))
		}
		refused(t, append(bytes.Clone(whole), whole...))
	}
	refused(t, make([]byte, 1<<16))
}

// P5.2: bytes of no pointer that is Right aren't read: of a wrong sector, of a wrong birth, and zeros with a sum.
func TestReadOfWrongOnes(t *testing.T) {
	for _, at := range []uint32{0, 1, 3, 1024, 1025, 4096, 1 << 16, 1<<16 + 4, 1 << 24, 1<<31 + 4, math.MaxUint32} {
		for _, birth := range append(rightBirths, wrongBirths...) {
			for _, sum := range sums {
				if at != 0 || birth != 0 || sum != 0 {
					refused(t, laid(at, birth, sum))
				}
			}
		}
	}
	for _, at := range rightAts {
		for _, birth := range wrongBirths {
			for _, sum := range sums {
				refused(t, laid(uint32(at), birth, sum))
			}
		}
	}
}

// P5.2: sixteen bytes all of which but one are zeros are no pointer.
func TestReadOfOneByte(t *testing.T) {
	for i := range 16 {
		for x := 1; x < 256; x++ {
			b := make([]byte, 16)
			b[i] = byte(x)
			refused(t, b)
		}
	}
}

// P5.2: whatever one byte of a pointer is changed to, it is read if it can be, and is the Bytes of what was read.
func TestReadOfChangedBytes(t *testing.T) {
	for _, p := range []api.Ptr{{At: 4, Birth: 1}, {At: 1023, Birth: greatest, Sum: 0x01020304}, {At: 0x102, Birth: 0x030405060708, Sum: math.MaxUint32}} {
		for i := range 16 {
			for x := range 256 {
				b := laid(uint32(p.At), p.Birth, p.Sum)
				b[i] = byte(x)
				at, birth, sum := binary.LittleEndian.Uint32(b), binary.LittleEndian.Uint64(b[4:]), binary.LittleEndian.Uint32(b[12:])
				if at < 4 || at > 1023 || birth < 1 || birth > greatest {
					refused(t, b)
					continue
				}
				q, e := Read(b)
				if want := (api.Ptr{At: int(at), Birth: birth, Sum: sum}); q != want || e != api.OK {
					t.Errorf("Read %v: %v %v", b, q, e)
				}
				if again, e := Bytes(q); !bytes.Equal(again, b) || e != api.OK {
					t.Errorf("Bytes of %v: %v %v", q, again, e)
				}
			}
		}
	}
}

// A rule that holds everywhere: what is handed in isn't changed, spare room included, and what is behind its end doesn't count.
func TestNothingIsChanged(t *testing.T) {
	room := append(laid(9, 5, 7), 1, 2, 3, 4)
	want := bytes.Clone(room)
	for range 2 {
		if p, e := Read(room[:16]); p != (api.Ptr{At: 9, Birth: 5, Sum: 7}) || e != api.OK {
			t.Errorf("Read: %v %v", p, e)
		}
		refused(t, room[:15])
		refused(t, room)
	}
	if !bytes.Equal(room, want) {
		t.Errorf("Read changed %v", room)
	}
}

// A rule that holds everywhere: an answer is memory of its own, spare room too.
func TestMemoryOfItsOwn(t *testing.T) {
	for _, p := range []api.Ptr{{}, {At: 4, Birth: 1}, {At: 9, Birth: 5, Sum: 7}} {
		want := laid(uint32(p.At), p.Birth, p.Sum)
		one, _ := Bytes(p)
		two, _ := Bytes(p)
		all := one[:cap(one)]
		for i := range all {
			all[i] = '!'
		}
		three, _ := Bytes(p)
		if !slices.Equal(two, want) || !slices.Equal(three, want) {
			t.Errorf("Bytes of %v share memory: %v %v", p, two, three)
		}
	}
}
