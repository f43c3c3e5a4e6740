package node

import (
	"encoding/binary"
	"math"
	"testing"

	"aquifer/api"
)

const greatest = 1<<48 - 1 // the greatest stamp

var (
	rightAts    = []int{4, 5, 255, 256, 0x102, 1022, 1023}
	wrongAts    = []int{0, 1, 3, 1024, 1025, 4096, 1<<16 + 4, 1 << 31, 1<<32 + 4, math.MaxInt, -1, -4, math.MinInt, math.MinInt + 4}
	rightBirths = []uint64{1, 2, 1 << 32, 1<<32 + 1, greatest - 1, greatest}
	wrongBirths = []uint64{0, 1 << 48, 1<<48 + 1, 1 << 63, 1<<63 + 1, math.MaxUint64}
	sums        = []uint32{0, 1, 0x01020304, 1 << 31, math.MaxUint32}
)

// each goes through all pointers of these parts but a hole.
func each(ats []int, births []uint64, do func(p api.Ptr)) {
	for _, at := range ats {
		for _, birth := range births {
			for _, sum := range sums {
				if at != 0 || birth != 0 || sum != 0 {
					do(api.Ptr{At: at, Birth: birth, Sum: sum})
				}
			}
		}
	}
}

// rights are pointers that can be, and no hole.
func rights() []api.Ptr {
	var l []api.Ptr
	each(rightAts, rightBirths, func(p api.Ptr) { l = append(l, p) })
	return l
}

// wrongs are pointers that can't be: of a wrong sector, of a wrong birth, of both.
func wrongs() []api.Ptr {
	var l []api.Ptr
	add := func(p api.Ptr) { l = append(l, p) }
	each(wrongAts, rightBirths, add)
	each(rightAts, wrongBirths, add)
	each(wrongAts, wrongBirths, add)
	return l
}

// others are eight unlike pointers.
func others() [8]api.Ptr {
	return [8]api.Ptr{
		{At: 4, Birth: 1},
		{At: 1023, Birth: greatest, Sum: math.MaxUint32},
		{At: 0x102, Birth: 0x030405060708, Sum: 0x090a0b0c},
		{At: 9, Birth: 2, Sum: 1},
		{At: 9, Birth: 1, Sum: 1},
		{At: 256, Birth: 1 << 47, Sum: 1 << 31},
		{At: 63, Birth: 1 << 32, Sum: 0xE3069283},
		{At: 64, Birth: 255, Sum: 256},
	}
}

// same is eight times one pointer.
func same(p api.Ptr) [8]api.Ptr { return [8]api.Ptr{p, p, p, p, p, p, p, p} }

// alone is one pointer in a place, and holes.
func alone(i int, p api.Ptr) [8]api.Ptr {
	var l [8]api.Ptr
	l[i] = p
	return l
}

// among is some pointers with another one in a place.
func among(l [8]api.Ptr, i int, p api.Ptr) [8]api.Ptr {
	l[i] = p
	return l
}

// can: is it a hole, or of a sector and a birth that can be?
func can(p api.Ptr) bool {
	return p == (api.Ptr{}) || p.At >= 4 && p.At <= 1023 && p.Birth >= 1 && p.Birth <= greatest
}

// laid is pointers' parts as a sector, whether they can be or not.
func laid(l [8]api.Ptr) api.Sector {
	var b []byte
	for _, p := range l {
		b = binary.LittleEndian.AppendUint32(b, uint32(p.At))
		b = binary.LittleEndian.AppendUint64(b, p.Birth)
		b = binary.LittleEndian.AppendUint32(b, p.Sum)
	}
	return api.Sector(b)
}

// told is what a sector's bytes tell, and whether all of it can be.
func told(s api.Sector) ([8]api.Ptr, bool) {
	var l [8]api.Ptr
	all := true
	for i := range l {
		b := s[16*i:]
		l[i] = api.Ptr{At: int(binary.LittleEndian.Uint32(b)), Birth: binary.LittleEndian.Uint64(b[4:]), Sum: binary.LittleEndian.Uint32(b[12:])}
		all = all && can(l[i])
	}
	return l, all
}

// taken: are the pointers written, and read again?
func taken(t *testing.T, l [8]api.Ptr) {
	t.Helper()
	want := laid(l)
	s, e := Bytes(l)
	if s != want || e != api.OK {
		t.Errorf("Bytes of %v: %v %v", l, s, e)
	}
	if k, e := Read(want); k != l || e != api.OK {
		t.Errorf("Read of %v: %v %v", l, k, e)
	}
}

// refused: are the pointers taken for some that can't be?
func refused(t *testing.T, l [8]api.Ptr) {
	t.Helper()
	if s, e := Bytes(l); s != (api.Sector{}) || e != api.ErrPtr {
		t.Errorf("Bytes of %v: %v %v", l, s, e)
	}
}

// unread: is the sector taken for that of no pointers?
func unread(t *testing.T, s api.Sector) {
	t.Helper()
	if l, e := Read(s); l != ([8]api.Ptr{}) || e != api.ErrPtr {
		t.Errorf("Read of %v: %v %v", s, l, e)
	}
}

// asRead: does Read tell what the sector's bytes tell, and is the sector the Bytes of it?
func asRead(t *testing.T, s api.Sector) {
	t.Helper()
	want, ok := told(s)
	if !ok {
		unread(t, s)
		return
	}
	l, e := Read(s)
	if l != want || e != api.OK {
		t.Errorf("Read of %v: %v %v", s, l, e)
	}
	if again, e := Bytes(l); again != s || e != api.OK {
		t.Errorf("Bytes of what was read of %v: %v %v", s, again, e)
	}
}

// Layer 5's errors: the number that a pointer which can't be has.
func TestErrors(t *testing.T) {
	if _, e := Bytes(alone(3, api.Ptr{At: 9})); e != 51 {
		t.Errorf("Bytes of a pointer that can't be: %v", e)
	}
	if _, e := Read(api.Sector{127: 1}); e != 51 {
		t.Errorf("Read of bytes that can't be: %v", e)
	}
}

// The section Examples: eight holes are a sector of zeros.
func TestHoles(t *testing.T) {
	if s, e := Bytes([8]api.Ptr{}); s != (api.Sector{}) || e != api.OK {
		t.Errorf("Bytes of holes: %v %v", s, e)
	}
	if l, e := Read(api.Sector{}); l != ([8]api.Ptr{}) || e != api.OK {
		t.Errorf("Read of zeros: %v %v", l, e)
	}
}

// P10.1: a sector, written out.
func TestKnownBytes(t *testing.T) {
	l := [8]api.Ptr{
		{At: 4, Birth: 1},
		{},
		{At: 1023, Birth: greatest, Sum: math.MaxUint32},
		{At: 0x102, Birth: 0x030405060708, Sum: 0x090a0b0c},
		7: {At: 5, Birth: 6, Sum: 7},
	}
	want := api.Sector([]byte("\x04\x00\x00\x00\x01\x00\x00\x00\x00\x00\x00\x00\x00\x00\x00\x00" +
		"\x00\x00\x00\x00\x00\x00\x00\x00\x00\x00\x00\x00\x00\x00\x00\x00" +
		"\xff\x03\x00\x00\xff\xff\xff\xff\xff\xff\x00\x00\xff\xff\xff\xff" +
		"\x02\x01\x00\x00\x08\x07\x06\x05\x04\x03\x00\x00\x0c\x0b\x0a\x09" +
		"\x00\x00\x00\x00\x00\x00\x00\x00\x00\x00\x00\x00\x00\x00\x00\x00" +
		"\x00\x00\x00\x00\x00\x00\x00\x00\x00\x00\x00\x00\x00\x00\x00\x00" +
		"\x00\x00\x00\x00\x00\x00\x00\x00\x00\x00\x00\x00\x00\x00\x00\x00" +
		"\x05\x00\x00\x00\x06\x00\x00\x00\x00\x00\x00\x00\x07\x00\x00\x00"))
	if s, e := Bytes(l); s != want || e != api.OK {
		t.Errorf("Bytes: %v %v", s, e)
	}
	if k, e := Read(want); k != l || e != api.OK {
		t.Errorf("Read: %v %v", k, e)
	}
}

// P10.1: pointers that can be are written and read, each alone in each place, beside others, and eight times.
func TestBytesAndRead(t *testing.T) {
	for _, p := range rights() {
		taken(t, same(p))
		for i := range 8 {
			taken(t, alone(i, p))
			taken(t, among(others(), i, p))
		}
	}
	taken(t, others())
}

// P10.1: holes may stand among pointers, in whatever places.
func TestHolesAmongPointers(t *testing.T) {
	for holes := range 256 {
		l, k := others(), same(api.Ptr{At: 1023, Birth: greatest, Sum: 5})
		for i := range 8 {
			if holes>>i&1 == 1 {
				l[i], k[i] = api.Ptr{}, api.Ptr{}
			}
		}
		taken(t, l)
		taken(t, k)
	}
}

// P10.1: whatever order they have, the pointers stand in it, and aren't sorted.
func TestOrder(t *testing.T) {
	l := others()
	for turn := range 8 {
		var k, back [8]api.Ptr
		for i := range 8 {
			k[i], back[7-i] = l[(i+turn)%8], l[(i+turn)%8]
		}
		taken(t, k)
		taken(t, back)
	}
}

// P10.1: the edges of a sector's number and of a birth, one below and one above, beside a pointer of all sums and beside holes.
func TestEdges(t *testing.T) {
	for _, at := range []int{3, 4, 1023, 1024} {
		for _, birth := range []uint64{0, 1, greatest, greatest + 1} {
			for _, sum := range sums {
				p := api.Ptr{At: at, Birth: birth, Sum: sum}
				for i := range 8 {
					if can(p) {
						taken(t, alone(i, p))
						taken(t, among(others(), i, p))
						continue
					}
					refused(t, alone(i, p))
					refused(t, among(others(), i, p))
					unread(t, laid(alone(i, p)))
					unread(t, laid(among(others(), i, p)))
				}
			}
		}
	}
}

// P10.1: a pointer that can't be, in whatever place, alone or beside others: ErrPtr, and zeros.
func TestBytesOfWrongOnes(t *testing.T) {
	for _, p := range wrongs() {
		refused(t, same(p))
		for i := range 8 {
			refused(t, alone(i, p))
			refused(t, among(others(), i, p))
			refused(t, among(same(p), i, api.Ptr{}))
			refused(t, among(same(p), i, api.Ptr{At: 4, Birth: 1}))
		}
	}
}

// P10.1: a pointer that is no hole though some of its parts are zeros.
func TestZerosInSomeParts(t *testing.T) {
	for _, p := range []api.Ptr{{At: 4}, {At: 1023}, {Birth: 1}, {Birth: greatest}, {Sum: 1}, {Sum: math.MaxUint32}, {At: 4, Sum: 1}, {Birth: 1, Sum: 1}} {
		for i := range 8 {
			refused(t, alone(i, p))
			refused(t, among(others(), i, p))
			unread(t, laid(alone(i, p)))
			unread(t, laid(among(others(), i, p)))
		}
	}
	for i := range 8 {
		taken(t, alone(i, api.Ptr{At: 4, Birth: 1}))
	}
}

// P10.1: two that can't be in one list, each in each place.
func TestTwoWrongOnes(t *testing.T) {
	for i := range 8 {
		for j := range 8 {
			l := among(among(others(), i, api.Ptr{At: 3, Birth: 1}), j, api.Ptr{At: 4, Birth: 1 << 48})
			refused(t, l)
			unread(t, laid(l))
		}
	}
}

// P10.1: sectors in which there are bytes of no pointer that can be: ErrPtr, and holes.
func TestReadOfWrongOnes(t *testing.T) {
	for _, p := range wrongs() {
		if int(uint32(p.At)) != p.At {
			continue // its number has no four bytes
		}
		unread(t, laid(same(p)))
		for i := range 8 {
			unread(t, laid(alone(i, p)))
			unread(t, laid(among(others(), i, p)))
		}
	}
}

// P10.1: one byte of a sector is whatever it be: what is read is what the bytes tell, if it can be, and is written again.
func TestReadOfChangedBytes(t *testing.T) {
	holed := among(among(others(), 0, api.Ptr{}), 6, api.Ptr{})
	for _, l := range [][8]api.Ptr{{}, others(), holed, same(api.Ptr{At: 4, Birth: 1}), same(api.Ptr{At: 1023, Birth: greatest, Sum: math.MaxUint32})} {
		for i := range api.Size {
			for x := range 256 {
				s := laid(l)
				s[i] = byte(x)
				asRead(t, s)
			}
		}
	}
}

// P10.1: in a sector of zeros there is no byte that may be another one alone.
func TestReadOfOneByte(t *testing.T) {
	for i := range api.Size {
		for x := 1; x < 256; x++ {
			var s api.Sector
			s[i] = byte(x)
			unread(t, s)
		}
	}
}

// P10.1: sectors all of whose bytes are one, and of a pointer's bytes that don't stand where they ought to.
func TestReadOfAnyBytes(t *testing.T) {
	for x := 1; x < 256; x++ {
		var s api.Sector
		for i := range s {
			s[i] = byte(x)
		}
		unread(t, s)
	}
	whole := laid(others())
	for turn := range api.Size {
		var s api.Sector
		for i := range s {
			s[i] = whole[(i+turn)%api.Size]
		}
		asRead(t, s)
	}
}

// P10.2: of no holes but eight is all empty.
func TestEmpty(t *testing.T) {
	if !Empty([8]api.Ptr{}) {
		t.Error("eight holes aren't empty")
	}
	for _, p := range append(rights(), wrongs()...) {
		if Empty(same(p)) {
			t.Errorf("eight times %v is empty", p)
		}
		for i := range 8 {
			if Empty(alone(i, p)) {
				t.Errorf("%v at %v is empty", p, i)
			}
			if Empty(among(same(p), i, api.Ptr{})) {
				t.Errorf("%v everywhere but at %v is empty", p, i)
			}
		}
	}
}

// P10.2: zeros in some of a pointer's parts make no hole, whether it can be or not.
func TestEmptyOfOnePart(t *testing.T) {
	for i := range 8 {
		for _, p := range []api.Ptr{{At: 4}, {At: -1}, {At: 1 << 32}, {At: math.MinInt}, {At: math.MaxInt}, {Birth: 1}, {Birth: 1 << 63}, {Birth: math.MaxUint64}, {Sum: 1}, {Sum: 1 << 31}, {Sum: math.MaxUint32}} {
			if Empty(alone(i, p)) {
				t.Errorf("%v at %v is empty", p, i)
			}
		}
	}
}

// P10.2: pointers whose parts come to nothing together are no holes.
func TestEmptyOfWhatComesToNothing(t *testing.T) {
	for _, l := range [][8]api.Ptr{
		{{At: 5}, {At: -5}},
		{{Birth: 1}, {Birth: math.MaxUint64}},
		{{Sum: 1}, {Sum: math.MaxUint32}},
		{{At: 4, Birth: 1}, {At: 4, Birth: 1}},
		{{At: -1, Birth: 1}},
	} {
		if Empty(l) {
			t.Errorf("%v is empty", l)
		}
	}
}

// P10.2: the greatest birth is found in whatever place, alone or above others, whatever sector and sum it has.
func TestNewest(t *testing.T) {
	for _, birth := range []uint64{1, 2, 255, 256, 1 << 32, greatest - 1, greatest, greatest + 1, 1 << 63, math.MaxUint64} {
		for i := range 8 {
			for _, at := range []int{4, 1023, 0, -1, math.MinInt, math.MaxInt} {
				for _, sum := range []uint32{0, 7, math.MaxUint32} {
					p := api.Ptr{At: at, Birth: birth, Sum: sum}
					if b := Newest(alone(i, p)); b != birth {
						t.Errorf("Newest of %v at %v: %v", p, i, b)
					}
					below := same(api.Ptr{At: 900, Birth: birth - 1, Sum: 1 << 31})
					if b := Newest(among(below, i, p)); b != birth {
						t.Errorf("Newest of %v at %v above others: %v", p, i, b)
					}
				}
			}
		}
	}
}

// P10.2: of unlike births the greatest, wherever it stands, and whichever stand around it.
func TestNewestOfUnlikeOnes(t *testing.T) {
	for top := range 8 {
		for turn := range 7 {
			var l [8]api.Ptr
			for i := range 7 {
				l[(top+1+i)%8] = api.Ptr{At: 1000 - i, Birth: uint64((i+turn)%7*100 + 1), Sum: uint32(i)}
			}
			l[top] = api.Ptr{At: 4, Birth: 602}
			if b := Newest(l); b != 602 {
				t.Errorf("Newest of %v: %v", l, b)
			}
		}
	}
}

// P10.2: two births may be as great, and all.
func TestNewestOfTwo(t *testing.T) {
	for i := range 8 {
		for j := range 8 {
			l := same(api.Ptr{At: 9, Birth: 3, Sum: 3})
			l[i], l[j] = api.Ptr{At: 4, Birth: 8}, api.Ptr{At: 1023, Birth: 8, Sum: 9}
			if b := Newest(l); b != 8 {
				t.Errorf("Newest of %v: %v", l, b)
			}
		}
	}
	for _, birth := range []uint64{0, 1, greatest, math.MaxUint64} {
		if b := Newest(same(api.Ptr{At: 9, Birth: birth, Sum: 3})); b != birth {
			t.Errorf("Newest of eight times %v: %v", birth, b)
		}
	}
}

// P10.2: holes have no birth, and other pointers without one don't have one, either.
func TestNewestOfHoles(t *testing.T) {
	if b := Newest([8]api.Ptr{}); b != 0 {
		t.Errorf("Newest of holes: %v", b)
	}
	if b := Newest(same(api.Ptr{At: math.MaxInt, Sum: math.MaxUint32})); b != 0 {
		t.Errorf("Newest of pointers without birth: %v", b)
	}
}

// A rule that holds everywhere: what is handed in isn't changed.
func TestNothingIsChanged(t *testing.T) {
	for _, l := range [][8]api.Ptr{{}, others(), alone(7, api.Ptr{At: 3}), among(others(), 4, api.Ptr{At: -1, Birth: 9})} {
		k, s := l, laid(l)
		Bytes(k)
		Empty(k)
		Newest(k)
		Read(s)
		if k != l || s != laid(l) {
			t.Errorf("%v: changed to %v %v", l, k, s)
		}
	}
}

// P2: a call answers the same whatever was asked ahead of it.
func TestAgain(t *testing.T) {
	for range 2 {
		taken(t, others())
		refused(t, alone(5, api.Ptr{At: 3}))
		taken(t, [8]api.Ptr{})
		unread(t, api.Sector{9: 9})
		taken(t, alone(5, api.Ptr{At: 5, Birth: 5}))
	}
}

// P10.1 and P10.2: many lists of pointers that can be and that can't, and many sectors, against what is told word by word.
func TestManyMixed(t *testing.T) {
	seed := uint64(10)
	next := func(n int) int {
		seed = seed*6364136223846793005 + 1442695040888963407
		return int(seed >> 33 % uint64(n))
	}
	good, bad := rights(), wrongs()
	for range 20000 {
		var l [8]api.Ptr
		all, none, newest := true, true, uint64(0)
		for i := range l {
			switch next(20) {
			case 0, 1, 2, 3, 4, 5, 6, 7, 8:
			case 9:
				l[i] = bad[next(len(bad))]
			default:
				l[i] = good[next(len(good))]
			}
			all = all && can(l[i])
			none = none && l[i].At == 0 && l[i].Birth == 0 && l[i].Sum == 0
			newest = max(newest, l[i].Birth)
		}
		if all {
			taken(t, l)
		} else {
			refused(t, l)
		}
		if Empty(l) != none || Newest(l) != newest {
			t.Errorf("%v: Empty %v, Newest %v", l, Empty(l), Newest(l))
		}
		s := laid(l)
		for range next(3) {
			s[next(api.Size)] ^= 1 << next(8)
		}
		asRead(t, s)
	}
}
