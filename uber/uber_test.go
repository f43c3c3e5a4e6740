package uber

import (
	"encoding/binary"
	"hash/crc32"
	"math"
	"slices"
	"testing"

	"aquifer/api"
	"aquifer/vdev"
)

const greatest = 1<<48 - 1 // the greatest Txg and Stamp

var (
	rightStamps  = []uint64{1, 2, 255, 256, 1 << 32, 1<<32 + 1, 1 << 47, greatest - 1, greatest}
	wrongStamps  = []uint64{0, 1 << 48, 1<<48 + 1, 1 << 49, 1 << 63, 1<<63 + 1, math.MaxUint64}
	rightTables  = []api.Ptr{{At: 4, Birth: 1}, {At: 4, Birth: greatest, Sum: 1}, {At: 1023, Birth: 1, Sum: math.MaxUint32}, {At: 1023, Birth: greatest}, {At: 258, Birth: 1 << 32, Sum: 0xE3069283}}
	wrongTables  = []api.Ptr{{}, {At: 3, Birth: 1}, {At: 1024, Birth: 1}, {At: -1, Birth: 1}, {At: 1<<32 + 4, Birth: 1}, {At: 4}, {At: 4, Sum: 1}, {At: 4, Birth: 1 << 48}, {At: 4, Birth: math.MaxUint64}, {Birth: 1}, {Sum: 1}}
	rightLens    = []int{1, 2, 128, 255, 256, 300, 65534, 65535}
	wrongLens    = []int{0, 65536, 65537, 1 << 31, 1 << 32, 1<<32 + 1, math.MaxInt, -1, -65535, -1<<32 + 1, math.MinInt, math.MinInt + 1}
	rightSectors = []int{64, 65, 128, 255, 256, 1023, 1024}
	wrongSectors = []int{0, 1, 4, 63, 1025, 4096, 65536 + 64, 1<<32 + 64, math.MaxInt, -1, -64, -1024, math.MinInt, math.MinInt + 64}
)

// one is an uber of that group.
func one(txg uint64) api.Uber {
	return api.Uber{Txg: txg, Stamp: 7, Table: api.Ptr{At: 20, Birth: 3, Sum: 9}, Len: 300, Sectors: 128}
}

// changed is an uber with one part of all kinds changed.
func changed(change func(u *api.Uber)) api.Uber {
	u := one(6)
	change(&u)
	return u
}

// rights are ubers that can be: each part at each of its values, and all at their ends.
func rights() []api.Uber {
	var l []api.Uber
	for _, n := range rightStamps {
		l = append(l, changed(func(u *api.Uber) { u.Txg = n }), changed(func(u *api.Uber) { u.Stamp = n }))
	}
	for _, p := range rightTables {
		l = append(l, changed(func(u *api.Uber) { u.Table = p }))
	}
	for _, n := range rightLens {
		l = append(l, changed(func(u *api.Uber) { u.Len = n }))
	}
	for _, n := range rightSectors {
		l = append(l, changed(func(u *api.Uber) { u.Sectors = n }))
	}
	least := api.Uber{Txg: 1, Stamp: 1, Table: api.Ptr{At: 4, Birth: 1}, Len: 1, Sectors: 64}
	most := api.Uber{Txg: greatest, Stamp: greatest, Table: api.Ptr{At: 1023, Birth: greatest, Sum: math.MaxUint32}, Len: 65535, Sectors: 1024}
	return append(l, least, most)
}

// wrongs are ubers that can't be: one part at each of its wrong values.
func wrongs() []api.Uber {
	l := []api.Uber{{}}
	for _, n := range wrongStamps {
		l = append(l, changed(func(u *api.Uber) { u.Txg = n }), changed(func(u *api.Uber) { u.Stamp = n }))
	}
	for _, p := range wrongTables {
		l = append(l, changed(func(u *api.Uber) { u.Table = p }))
	}
	for _, n := range wrongLens {
		l = append(l, changed(func(u *api.Uber) { u.Len = n }))
	}
	for _, n := range wrongSectors {
		l = append(l, changed(func(u *api.Uber) { u.Sectors = n }))
	}
	return l
}

// summed is a sector with the sum that its first 124 bytes have.
func summed(s api.Sector) api.Sector {
	binary.LittleEndian.PutUint32(s[124:], crc32.Checksum(s[:124], crc32.MakeTable(crc32.Castagnoli)))
	return s
}

// laid is the sector of an uber, whether it can be or not, of the lowest bits of its parts.
func laid(u api.Uber) api.Sector {
	var s api.Sector
	copy(s[:], "AQFR")
	binary.LittleEndian.PutUint64(s[4:], u.Txg)
	binary.LittleEndian.PutUint64(s[12:], u.Stamp)
	binary.LittleEndian.PutUint32(s[20:], uint32(u.Table.At))
	binary.LittleEndian.PutUint64(s[24:], u.Table.Birth)
	binary.LittleEndian.PutUint32(s[32:], u.Table.Sum)
	binary.LittleEndian.PutUint32(s[36:], uint32(u.Len))
	binary.LittleEndian.PutUint32(s[40:], uint32(u.Sectors))
	return summed(s)
}

// refused: does Read take this sector for no uber?
func refused(t *testing.T, why string, s api.Sector) {
	t.Helper()
	if u, ok := Read(s); ok || u != (api.Uber{}) {
		t.Errorf("%v: Read tells %v %v of %v", why, u, ok, s)
	}
}

// The section Errors: its number.
func TestErrors(t *testing.T) {
	if _, e := Bytes(api.Uber{}); e != 61 {
		t.Errorf("Bytes of an uber that can't be: %v", e)
	}
	if e := Commit(vdev.New(64), api.Uber{}); e != 61 {
		t.Errorf("Commit of an uber that can't be: %v", e)
	}
}

// P6.1: each part is asked by itself, from its least value to its greatest.
func TestRight(t *testing.T) {
	for _, u := range rights() {
		if !Right(u) {
			t.Errorf("%v isn't Right", u)
		}
	}
	for _, u := range wrongs() {
		if Right(u) {
			t.Errorf("%v is Right", u)
		}
	}
}

// P6.1: no part is held against another: the table may lead behind the last sector, and be born behind the stamp.
func TestRightAsksEachPartAlone(t *testing.T) {
	u := api.Uber{Txg: greatest, Stamp: 1, Table: api.Ptr{At: 1023, Birth: greatest}, Len: 65535, Sectors: 64}
	if !Right(u) {
		t.Errorf("%v isn't Right", u)
	}
	u.Txg, u.Stamp = 1, greatest
	if !Right(u) {
		t.Errorf("%v isn't Right", u)
	}
}

// P6.1: known bytes, each part with the lowest byte first.
func TestBytesAreThese(t *testing.T) {
	u := api.Uber{
		Txg:   0x060504030201,
		Stamp: 0x161514131211,
		Table: api.Ptr{At: 0x0221, Birth: 0x363534333231, Sum: 0x44434241},
		Len:   0x5251, Sectors: 0x0361,
	}
	want := api.Sector{
		'A', 'Q', 'F', 'R',
		1, 2, 3, 4, 5, 6, 0, 0,
		0x11, 0x12, 0x13, 0x14, 0x15, 0x16, 0, 0,
		0x21, 2, 0, 0,
		0x31, 0x32, 0x33, 0x34, 0x35, 0x36, 0, 0,
		0x41, 0x42, 0x43, 0x44,
		0x51, 0x52, 0, 0,
		0x61, 3, 0, 0,
	}
	want = summed(want)
	if s, e := Bytes(u); s != want || e != api.OK {
		t.Errorf("Bytes of %v: %v %v, not %v", u, s, e, want)
	}
}

// P6.1: the Bytes of what is Right are laid so, and Read tells it again.
func TestBytesAndRead(t *testing.T) {
	for _, u := range rights() {
		s, e := Bytes(u)
		if s != laid(u) || e != api.OK {
			t.Errorf("Bytes of %v: %v %v, not %v", u, s, e, laid(u))
		}
		if v, ok := Read(s); v != u || !ok {
			t.Errorf("Read of Bytes of %v: %v %v", u, v, ok)
		}
	}
}

// P6.1: of what isn't Right there are no Bytes.
func TestBytesOfWrongOnes(t *testing.T) {
	for _, u := range wrongs() {
		if s, e := Bytes(u); s != (api.Sector{}) || e != api.ErrUber {
			t.Errorf("Bytes of %v: %v %v", u, s, e)
		}
	}
}

// P6.1: a sector of which any one byte is another is of no uber.
func TestReadOfOtherBytes(t *testing.T) {
	for _, u := range []api.Uber{one(6), rights()[0], rights()[len(rights())-1]} {
		s, _ := Bytes(u)
		for i := range s {
			for n := 1; n < 256; n++ {
				x := s
				x[i] ^= byte(n)
				refused(t, "another byte", x)
			}
		}
	}
}

// P6.1: a sum that is right doesn't make an uber of a sector.
func TestReadOfWrongOnesWithRightSums(t *testing.T) {
	for _, u := range wrongs() {
		if fits(u) {
			refused(t, "an uber that can't be", laid(u))
		}
	}
	s := laid(one(6))
	for i := range 4 {
		for n := 1; n < 256; n++ {
			x := s
			x[i] ^= byte(n)
			refused(t, "another mark", summed(x))
		}
	}
	for i := 44; i < 124; i++ {
		for _, n := range []byte{1, 128, 255} {
			x := s
			x[i] = n
			refused(t, "more than zeros behind the uber", summed(x))
		}
	}
	refused(t, "zeros", api.Sector{})
	refused(t, "zeros with their sum", summed(api.Sector{}))
	refused(t, "a mark alone", summed(api.Sector{'A', 'Q', 'F', 'R'}))
}

// fits: does each part fit where it is laid? Of one that doesn't the lowest bits may be those of an uber that can be.
func fits(u api.Uber) bool {
	return u.Table.At == int(uint32(u.Table.At)) && u.Len == int(uint32(u.Len)) && u.Sectors == int(uint32(u.Sectors))
}

// P6.1: numbers that need all bytes of their place are of no uber.
func TestReadOfGreatNumbers(t *testing.T) {
	s := laid(one(6))
	for _, c := range []struct{ from, to int }{{4, 12}, {12, 20}, {20, 24}, {24, 32}, {36, 40}, {40, 44}} {
		x := s
		for i := c.from; i < c.to; i++ {
			x[i] = 255
		}
		refused(t, "a great number", summed(x))
		x = s
		x[c.to-1] = 128
		refused(t, "a great bit", summed(x))
	}
}

// P6.1: the sum stands in its place with the lowest byte first, and is of the bytes ahead of it.
func TestReadOfOtherSums(t *testing.T) {
	s := laid(one(6))
	x := s
	slices.Reverse(x[124:])
	refused(t, "a sum the other way round", x)
	x = s
	binary.LittleEndian.PutUint32(x[124:], crc32.ChecksumIEEE(x[:124]))
	refused(t, "another kind of sum", x)
	x = s
	binary.LittleEndian.PutUint32(x[124:], crc32.Checksum(x[:44], crc32.MakeTable(crc32.Castagnoli)))
	refused(t, "a sum of the uber without the zeros", x)
	x = s
	clear(x[124:])
	refused(t, "no sum", x)
}

// full is a sector of which all bytes are that.
func full(x byte) api.Sector {
	var s api.Sector
	for i := range s {
		s[i] = x
	}
	return s
}

// commit commits groups, one after the other, which must be done.
func commit(t *testing.T, d *vdev.Dev, txgs ...uint64) {
	t.Helper()
	for _, txg := range txgs {
		if e := Commit(d, one(txg)); e != api.OK {
			t.Fatalf("Commit of %v: %v", txg, e)
		}
	}
}

// lists: are these the groups that List tells, each as it was committed, and is the last of them Best?
func lists(t *testing.T, d *vdev.Dev, txgs ...uint64) {
	t.Helper()
	var want []api.Uber
	for _, txg := range txgs {
		want = append(want, one(txg))
	}
	if l := List(d); !slices.Equal(l, want) {
		t.Errorf("List tells %v, not %v", l, want)
	}
	u, ok := Best(d)
	if len(want) == 0 && (ok || u != api.Uber{}) {
		t.Errorf("Best tells %v %v, where there is none", u, ok)
	}
	if len(want) > 0 && (!ok || u != want[len(want)-1]) {
		t.Errorf("Best tells %v %v, not %v", u, ok, want[len(want)-1])
	}
}

// P6.2: a Commit writes the sector Txg modulo 4, and no other, and makes it stable.
func TestCommitWritesOneSector(t *testing.T) {
	for _, txg := range []uint64{1, 2, 3, 4, 5, 6, 7, 8, 1 << 32, 1<<32 + 3, greatest - 2, greatest - 1, greatest} {
		d := vdev.New(64)
		for i := range d.Len() {
			d.Rot(i, full(byte(i)))
		}
		commit(t, d, txg)
		if d.Pending() != 0 || d.Ops() != 3 {
			t.Errorf("Commit of %v: %v writes are pending behind %v calls", txg, d.Pending(), d.Ops())
		}
		for i := range d.Len() {
			want := full(byte(i))
			if i == int(txg%4) {
				want = laid(one(txg))
			}
			if s := d.Stable(i); s != want {
				t.Errorf("Commit of %v: sector %v is %v, not %v", txg, i, s, want)
			}
		}
	}
}

// P6.2: all parts of an uber are committed, of each that can be.
func TestCommitOfAllThatAreRight(t *testing.T) {
	for _, u := range rights() {
		d := vdev.New(4)
		if e := Commit(d, u); e != api.OK || d.Stable(int(u.Txg%4)) != laid(u) {
			t.Errorf("Commit of %v: %v", u, e)
		}
	}
}

// P6.2: of what isn't Right nothing is done, not even a Flush, whatever the device is.
func TestCommitOfWrongOnes(t *testing.T) {
	for _, u := range wrongs() {
		d := vdev.New(64)
		commit(t, d, 1, 2, 3, 4)
		d.Write(40, full(1))
		ops := d.Ops()
		if e := Commit(d, u); e != api.ErrUber || d.Ops() != ops || d.Pending() != 1 {
			t.Errorf("Commit of %v: %v, %v calls more, %v pending", u, e, d.Ops()-ops, d.Pending())
		}
		lists(t, d, 1, 2, 3, 4)
		d.Break(0)
		d.Flush()
		if e := Commit(d, u); e != api.ErrUber {
			t.Errorf("Commit of %v without power: %v", u, e)
		}
		if e := Commit(vdev.New(0), u); e != api.ErrUber {
			t.Errorf("Commit of %v to no sectors: %v", u, e)
		}
	}
}

// P6.2: a Flush, the Write, and a Flush: where the power goes in a Commit is what was done of it.
func TestCommitGoesUpToTheFirstError(t *testing.T) {
	for _, c := range []struct {
		left, ops, pending int
		flushed            bool
	}{
		{0, 1, 2, false},
		{1, 2, 0, true},
		{2, 3, 1, true},
	} {
		d := vdev.New(64)
		commit(t, d, 1, 2)
		d.Write(40, full(1))
		d.Write(41, full(2))
		ops := d.Ops()
		d.Break(c.left)
		if e := Commit(d, one(3)); e != api.ErrPower || d.Ops()-ops != c.ops || d.Pending() != c.pending {
			t.Errorf("power for %v: %v behind %v calls, %v pending", c.left, e, d.Ops()-ops, d.Pending())
		}
		d.Crash()
		if (d.Stable(40) == full(1)) != c.flushed || (d.Stable(41) == full(2)) != c.flushed {
			t.Errorf("power for %v: what was pending is stable, or is not", c.left)
		}
		lists(t, d, 1, 2)
	}
	d := vdev.New(64)
	d.Break(3)
	commit(t, d, 1)
	d.Crash()
	lists(t, d, 1)
}

// P6.2: without power there is no Commit.
func TestCommitWithoutPower(t *testing.T) {
	d := vdev.New(64)
	commit(t, d, 1)
	d.Break(0)
	d.Write(9, full(1))
	ops := d.Ops()
	if e := Commit(d, one(2)); e != api.ErrPower || d.Ops() != ops+1 {
		t.Errorf("Commit without power: %v behind %v calls", e, d.Ops()-ops)
	}
	d.Crash(true, true, true)
	lists(t, d, 1)
}

// P6.2: where there is no such sector, what was pending is flushed, and that is all.
func TestCommitToFewSectors(t *testing.T) {
	for sectors := range 4 {
		for txg := uint64(1); txg < 9; txg++ {
			d := vdev.New(sectors)
			want, ops := api.OK, 3
			if int(txg%4) >= sectors {
				want, ops = api.ErrSector, 2
			}
			if sectors > 0 {
				d.Write(0, full(7))
			}
			if e := Commit(d, one(txg)); e != want || d.Ops()-min(sectors, 1) != ops || d.Pending() != 0 {
				t.Errorf("Commit of %v to %v sectors: %v behind %v calls, %v pending", txg, sectors, e, d.Ops(), d.Pending())
			}
			d.Crash()
			if sectors > 0 && txg%4 != 0 && d.Stable(0) != full(7) {
				t.Errorf("Commit of %v to %v sectors: what was pending isn't stable", txg, sectors)
			}
			if want == api.OK {
				lists(t, d, txg)
			} else {
				lists(t, d)
			}
		}
	}
}

// P6.2: where there is no such sector, and no power for a Flush, it is the power.
func TestCommitAsksThePowerFirst(t *testing.T) {
	d := vdev.New(0)
	d.Break(0)
	if e := Commit(d, one(1)); e != api.ErrPower || d.Ops() != 1 {
		t.Errorf("Commit without power to no sectors: %v behind %v calls", e, d.Ops())
	}
	d = vdev.New(2)
	d.Break(1)
	if e := Commit(d, one(3)); e != api.ErrSector || d.Ops() != 2 {
		t.Errorf("Commit with power for a Flush to no sector: %v behind %v calls", e, d.Ops())
	}
}

// The chapter's example.
func TestExamples(t *testing.T) {
	d := vdev.New(64)
	commit(t, d, 1, 2)
	lists(t, d, 1, 2)
}

// P6.3: an empty ring, and one of which more and more is there, goes round.
func TestListOfARing(t *testing.T) {
	d := vdev.New(64)
	lists(t, d)
	var all []uint64
	for txg := uint64(1); txg < 20; txg++ {
		commit(t, d, txg)
		all = append(all, txg)
		lists(t, d, all[max(0, len(all)-4):]...)
	}
}

// P6.3: the slots are told by rising Txg, in whatever order, with whatever stamps they came.
func TestListIsByTxg(t *testing.T) {
	for _, c := range []struct{ txgs, want []uint64 }{
		{[]uint64{4}, []uint64{4}},
		{[]uint64{greatest}, []uint64{greatest}},
		{[]uint64{9, 2}, []uint64{2, 9}},
		{[]uint64{2, 9}, []uint64{2, 9}},
		{[]uint64{8, 1, 2, 3}, []uint64{1, 2, 3, 8}},
		{[]uint64{4, 13, 10, 7}, []uint64{4, 7, 10, 13}},
		{[]uint64{400, 301, 202, 103}, []uint64{103, 202, 301, 400}},
		{[]uint64{greatest, 1 << 33, 1<<32 + 1, 2}, []uint64{2, 1<<32 + 1, 1 << 33, greatest}},
		{[]uint64{5, 9, 1}, []uint64{1}},
		{[]uint64{5, 6, 7, 8, 4}, []uint64{4, 5, 6, 7}},
	} {
		d := vdev.New(4)
		commit(t, d, c.txgs...)
		lists(t, d, c.want...)
	}
	d := vdev.New(4)
	for i, stamp := range []uint64{9, 8, 7, 6} {
		u := one(uint64(i + 1))
		u.Stamp = stamp
		Commit(d, u)
	}
	if u, ok := Best(d); u.Txg != 4 || u.Stamp != 6 || !ok {
		t.Errorf("Best by Txg: %v %v", u, ok)
	}
}

// P6.3: an uber in another sector than its own is no slot.
func TestListOfOtherPlaces(t *testing.T) {
	for txg := uint64(1); txg < 9; txg++ {
		d := vdev.New(64)
		for i := range 64 {
			d.Rot(i, laid(one(txg)))
		}
		lists(t, d, txg)
		d.Rot(int(txg%4), api.Sector{})
		lists(t, d)
		commit(t, d, 15)
		lists(t, d, 15)
	}
}

// P6.3: what rots is no slot any more, but what it rots to may be one.
func TestListOfWhatRots(t *testing.T) {
	d := vdev.New(64)
	commit(t, d, 5, 6, 7, 8)
	d.Rot(0, full(255))
	lists(t, d, 5, 6, 7)
	x := laid(one(7))
	x[127]++
	d.Rot(3, x)
	lists(t, d, 5, 6)
	d.Rot(2, laid(api.Uber{Txg: 6}))
	lists(t, d, 5)
	d.Rot(2, laid(one(2)))
	lists(t, d, 2, 5)
	d.Rot(0, laid(one(400)))
	lists(t, d, 2, 5, 400)
	d.Rot(1, api.Sector{})
	d.Rot(2, api.Sector{})
	d.Rot(0, api.Sector{})
	lists(t, d)
}

// P6.3: it is read as layer 4 reads: what is pending is there.
func TestListOfPendingWrites(t *testing.T) {
	d := vdev.New(64)
	commit(t, d, 1, 2)
	d.Write(3, laid(one(3)))
	lists(t, d, 1, 2, 3)
	d.Write(2, full(1))
	lists(t, d, 1, 3)
	d.Crash()
	lists(t, d, 1, 2)
}

// P6.3: all four are read, whatever is there, and nothing else is done to the device.
func TestListReadsAllFour(t *testing.T) {
	for sectors := range 70 {
		d := vdev.New(sectors)
		if sectors > 0 {
			d.Write(0, laid(one(4)))
		}
		for range 2 {
			for name, call := range map[string]func(){"List": func() { List(d) }, "Best": func() { Best(d) }} {
				ops, pending := d.Ops(), d.Pending()
				call()
				if d.Ops() != ops+4 || d.Pending() != pending {
					t.Errorf("%v of %v sectors: %v calls, %v pending", name, sectors, d.Ops()-ops, d.Pending())
				}
			}
			d.Break(0)
			d.Flush()
		}
	}
}

// P6.3: of few sectors those that are there are slots.
func TestListOfFewSectors(t *testing.T) {
	for sectors := range 5 {
		d := vdev.New(sectors)
		var want []uint64
		for txg := uint64(4); txg < 8; txg++ {
			if Commit(d, one(txg)) == api.OK {
				want = append(want, txg)
			}
		}
		if len(want) != sectors {
			t.Errorf("%v sectors take %v", sectors, want)
		}
		lists(t, d, want...)
	}
}

// P6.3: without power nothing is read, and with it all is there again.
func TestListWithoutPower(t *testing.T) {
	d := vdev.New(64)
	commit(t, d, 3, 4, 5)
	d.Break(0)
	lists(t, d, 3, 4, 5)
	d.Flush()
	lists(t, d)
	d.Crash()
	lists(t, d, 3, 4, 5)
}

// The rules: a list is new memory.
func TestListIsNewMemory(t *testing.T) {
	d := vdev.New(64)
	commit(t, d, 1, 2, 3)
	l := List(d)
	l = l[:cap(l)]
	for i := range l {
		l[i] = api.Uber{}
	}
	lists(t, d, 1, 2, 3)
}

// keeps goes through all choices of what a Crash keeps of so many writes.
func keeps(many int, do func(keep []bool)) {
	for n := range 1 << many {
		keep := make([]bool, many)
		for i := range keep {
			keep[i] = n>>i&1 == 1
		}
		do(keep)
	}
}

// P6.4: wherever the power goes in a Commit, and whatever is kept, Best tells what it told ahead, or this one.
func TestCrashInACommit(t *testing.T) {
	for old := range uint64(9) { // 0: none is there yet
		for left := range 3 {
			for _, txg := range []uint64{old + 1, old + 2, old + 3, old + 4, old + 5} {
				keeps(3, func(keep []bool) { crashInACommit(t, old, txg, left, keep) })
			}
		}
	}
}

// crashInACommit commits a group to a device on which one counts, with other writes pending and power for so much.
func crashInACommit(t *testing.T, old, txg uint64, left int, keep []bool) {
	t.Helper()
	d := vdev.New(64)
	for n := uint64(1); n <= old; n++ {
		commit(t, d, n)
	}
	ahead, some := Best(d)
	d.Write(9, full(1))
	d.Write(10, full(2))
	d.Break(left)
	if e := Commit(d, one(txg)); e != api.ErrPower {
		t.Errorf("power for %v: %v", left, e)
	}
	d.Crash(keep...)
	want := ahead
	if left == 2 && keep[0] {
		want, some = one(txg), true
	}
	if u, ok := Best(d); u != want || ok != some {
		t.Errorf("%v behind %v, power for %v, kept %v: Best tells %v %v, not %v", txg, old, left, keep, u, ok, want)
	}
	if left > 0 && (d.Stable(9) != full(1) || d.Stable(10) != full(2)) {
		t.Errorf("%v behind %v, power for %v, kept %v: what was pending isn't stable", txg, old, left, keep)
	}
}

// P6.4: groups are committed with crash upon crash, each time it is the old one or the new one that counts, and goes on from there.
func TestCrashUponCrash(t *testing.T) {
	d := vdev.New(64)
	counts, seed := uint64(0), uint32(1)
	next := func(n uint32) int {
		seed = seed*1664525 + 1013904223
		return int((seed >> 16) % n)
	}
	for round := range 3000 {
		txg := counts + 1 + uint64(next(3))
		d.Write(20+next(20), full(byte(round)))
		d.Break(next(5))
		e := Commit(d, one(txg))
		d.Crash(next(2) == 1, next(2) == 1)
		u, ok := Best(d)
		if u.Txg != counts && u.Txg != txg || e == api.OK && u.Txg != txg || ok != (u.Txg > 0) {
			t.Fatalf("round %v: %v was committed behind %v: %v; Best tells %v %v", round, txg, counts, e, u, ok)
		}
		if ok && u != one(u.Txg) {
			t.Fatalf("round %v: Best tells %v", round, u)
		}
		counts = u.Txg
	}
	if counts < 1000 {
		t.Errorf("so few groups counted: %v", counts)
	}
}
