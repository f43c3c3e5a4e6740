package field

import (
	"bytes"
	"math"
	"slices"
	"testing"

	"aquifer/api"
)

// wrongWidths are no widths; some times eight they go round to widths that could be.
var wrongWidths = []int{0, -1, 9, 10, 64, -8, 1 << 61, 1<<61 + 1, 1<<61 + 8, math.MaxInt, math.MinInt, math.MinInt + 1}

// P2.1: the numbers stand one behind the other, each in its width, the lowest byte first; Get tells them again.
func TestPutAndGet(t *testing.T) {
	for _, c := range []struct {
		widths []int
		nums   []uint64
		want   []byte
	}{
		{nil, nil, nil},
		{[]int{2}, []uint64{258}, []byte{2, 1}},
		{[]int{1}, []uint64{0}, []byte{0}},
		{[]int{1}, []uint64{255}, []byte{255}},
		{[]int{8}, []uint64{1}, []byte{1, 0, 0, 0, 0, 0, 0, 0}},
		{[]int{8}, []uint64{1 << 63}, []byte{0, 0, 0, 0, 0, 0, 0, 128}},
		{[]int{3, 1, 3}, []uint64{0x010203, 9, 0x040506}, []byte{3, 2, 1, 9, 6, 5, 4}},
		{[]int{1, 1, 1}, []uint64{3, 1, 2}, []byte{3, 1, 2}},
		{[]int{5, 6, 7}, []uint64{0x0102030405, 0x060708090a0b, 0x0c0d0e0f101112},
			[]byte{5, 4, 3, 2, 1, 11, 10, 9, 8, 7, 6, 18, 17, 16, 15, 14, 13, 12}},
		{[]int{8, 4, 2, 1}, []uint64{0x8182838485868788, 0xf1f2f3f4, 0xe1e2, 0xd1},
			[]byte{0x88, 0x87, 0x86, 0x85, 0x84, 0x83, 0x82, 0x81, 0xf4, 0xf3, 0xf2, 0xf1, 0xe2, 0xe1, 0xd1}},
	} {
		if b, e := Put(c.widths, c.nums...); e != api.OK || !bytes.Equal(b, c.want) {
			t.Errorf("Put %v %v: %v %v", c.widths, c.nums, b, e)
		}
		if nums, e := Get(c.widths, c.want); e != api.OK || !slices.Equal(nums, c.nums) {
			t.Errorf("Get %v %v: %v %v", c.widths, c.want, nums, e)
		}
	}
}

// P2.1: of each width the greatest number that it takes, and of the least that it doesn't ErrField.
func TestGreatestNumbers(t *testing.T) {
	for width := 1; width <= 8; width++ {
		greatest := uint64(math.MaxUint64) >> (64 - 8*width)
		want := bytes.Repeat([]byte{255}, width)
		if b, e := Put([]int{width}, greatest); e != api.OK || !bytes.Equal(b, want) {
			t.Errorf("Put %v in %v: %v %v", greatest, width, b, e)
		}
		if nums, e := Get([]int{width}, want); e != api.OK || !slices.Equal(nums, []uint64{greatest}) {
			t.Errorf("Get %v: %v %v", want, nums, e)
		}
		if width == 8 {
			continue
		}
		for _, n := range []uint64{greatest + 1, 1 << 63, math.MaxUint64} {
			for _, c := range []struct {
				widths []int
				nums   []uint64
			}{{[]int{width}, []uint64{n}}, {[]int{8, width}, []uint64{1, n}}, {[]int{width, 8}, []uint64{n, 1}}} {
				if b, e := Put(c.widths, c.nums...); e != api.ErrField || len(b) != 0 {
					t.Errorf("Put %v %v: %v %v", c.widths, c.nums, b, e)
				}
			}
		}
	}
}

// P2.1: ErrField and no bytes, if there are more numbers than widths, or fewer.
func TestPutOfOtherCounts(t *testing.T) {
	for widths := range 5 {
		for nums := range 5 {
			want := api.OK
			if widths != nums {
				want = api.ErrField
			}
			b, e := Put(slices.Repeat([]int{2}, widths), make([]uint64, nums)...)
			if e != want || e != api.OK && len(b) != 0 {
				t.Errorf("%v widths, %v numbers: %v %v", widths, nums, b, e)
			}
		}
	}
}

// P2.1: ErrField and nothing, if a width isn't from 1 to 8, wherever it stands and whatever the bytes.
func TestWrongWidths(t *testing.T) {
	for _, width := range wrongWidths {
		for _, widths := range [][]int{{width}, {width, 1}, {1, width}, {8, width, 8}} {
			if b, e := Put(widths, make([]uint64, len(widths))...); e != api.ErrField || len(b) != 0 {
				t.Errorf("Put %v: %v %v", widths, b, e)
			}
			for size := range 30 {
				if nums, e := Get(widths, make([]byte, size)); e != api.ErrField || len(nums) != 0 {
					t.Errorf("Get %v of %v bytes: %v %v", widths, size, nums, e)
				}
			}
		}
	}
}

// P2.1: ErrField and no numbers, too, if as many bytes are there as the sum of wrong widths.
func TestWrongWidthsOfTheRightSum(t *testing.T) {
	for _, c := range []struct {
		widths []int
		size   int
	}{
		{[]int{0}, 0},
		{[]int{9}, 9},
		{[]int{0, 2}, 2},
		{[]int{2, 0}, 2},
		{[]int{3, -1}, 2},
		{[]int{-1, 3}, 2},
		{[]int{9, -9}, 0},
		{[]int{math.MinInt, math.MinInt}, 0},
		{[]int{math.MaxInt, math.MaxInt, 4}, 2},
		{[]int{1 << 62, 1 << 62, 1 << 62, 1 << 62, 2}, 2},
	} {
		if nums, e := Get(c.widths, make([]byte, c.size)); e != api.ErrField || len(nums) != 0 {
			t.Errorf("Get %v of %v bytes: %v %v", c.widths, c.size, nums, e)
		}
	}
}

// P2.1: Get takes just as many bytes as the widths have in all.
func TestGetOfOtherSizes(t *testing.T) {
	for _, c := range []struct {
		widths []int
		right  int
	}{{nil, 0}, {[]int{1}, 1}, {[]int{2}, 2}, {[]int{8}, 8}, {[]int{3, 4}, 7}, {[]int{1, 8, 1}, 10}} {
		for size := range 20 {
			nums, e := Get(c.widths, make([]byte, size))
			if size == c.right && (e != api.OK || len(nums) != len(c.widths)) {
				t.Errorf("Get %v of %v bytes: %v %v", c.widths, size, nums, e)
			}
			if size != c.right && (e != api.ErrField || len(nums) != 0) {
				t.Errorf("Get %v of %v bytes: %v %v", c.widths, size, nums, e)
			}
		}
	}
}

// texts are lists of texts, and what they are joined to.
func texts() map[string][][]byte {
	return map[string][][]byte{
		"\x00\x00":                             nil,
		"\x01\x00\x00\x00":                     {nil},
		"\x01\x00\x02\x00ab":                   {[]byte("ab")},
		"\x02\x00\x00\x00\x00\x00":             {{}, nil},
		"\x03\x00\x01\x00a\x00\x00\x02\x00bc":  {[]byte("a"), nil, []byte("bc")},
		"\x02\x00\x02\x00\x00\x00\x01\x00\xff": {{0, 0}, {255}},
		"\x01\x00\x03\x01" + string(bytes.Repeat([]byte("x"), 259)): {bytes.Repeat([]byte("x"), 259)},
		"\x02\x01" + string(make([]byte, 2*258)):                    make([][]byte, 258),
	}
}

// same: are these the same texts?
func same(a, b [][]byte) bool { return slices.EqualFunc(a, b, bytes.Equal) }

// P2.2: how many, and of each how long, and itself; Split tells them again.
func TestJoinAndSplit(t *testing.T) {
	for joined, list := range texts() {
		if b, e := Join(list...); e != api.OK || string(b) != joined {
			t.Errorf("Join %q: %q %v", list, b, e)
		}
		if got, e := Split([]byte(joined)); e != api.OK || !same(got, list) {
			t.Errorf("Split %q: %q %v", joined, got, e)
		}
	}
}

// P2.2: a piece of what was joined is none, nor is more than that.
func TestSplitOfPieces(t *testing.T) {
	for joined := range texts() {
		b := []byte(joined)
		for size := range b {
			if got, e := Split(b[:size]); e != api.ErrField || len(got) != 0 {
				t.Errorf("Split of the first %v of %q: %q %v", size, joined, got, e)
			}
		}
		for _, more := range []string{"\x00", "x", "\x00\x00", "\x01\x00a", joined} {
			if got, e := Split([]byte(joined + more)); e != api.ErrField || len(got) != 0 {
				t.Errorf("Split of %q and %q: %q %v", joined, more, got, e)
			}
		}
	}
	if got, e := Split(nil); e != api.ErrField || len(got) != 0 {
		t.Errorf("Split of nothing: %q %v", got, e)
	}
}

// words are all texts of at most so many bytes, each byte from 0 to 2.
func words(most int) [][]byte {
	all := [][]byte{nil}
	for i := 0; i < len(all); i++ {
		for x := byte(0); x < 3 && len(all[i]) < most; x++ {
			all = append(all, append(bytes.Clone(all[i]), x))
		}
	}
	return all
}

// P2.2: of all short bytes just those are split that are a Join.
func TestSplitOfAllShortBytes(t *testing.T) {
	const most = 9
	joins := map[string][][]byte{"\x00\x00": nil}
	for _, x := range words(most - 4) {
		one, _ := Join(x)
		joins[string(one)] = [][]byte{x}
		for _, y := range words(max(0, most-6-len(x))) {
			two, _ := Join(x, y)
			joins[string(two)] = [][]byte{x, y}
		}
	}
	split := 0
	for _, b := range words(most) {
		got, e := Split(b)
		want, is := joins[string(b)]
		if is {
			split++
		}
		if is && (e != api.OK || !same(got, want)) || !is && (e != api.ErrField || len(got) != 0) {
			t.Errorf("Split %v: %v %v", b, got, e)
		}
	}
	if split < 20 {
		t.Errorf("only %v of these are a Join", split)
	}
}

// P2.2: a text may have 65535 bytes and no more, wherever it stands.
func TestLongTexts(t *testing.T) {
	long, longer := bytes.Repeat([]byte("y"), 65535), bytes.Repeat([]byte("y"), 65536)
	b, e := Join(long)
	if e != api.OK || !bytes.Equal(b, append([]byte{1, 0, 255, 255}, long...)) {
		t.Errorf("Join of a long text: %v bytes, %v", len(b), e)
	}
	if got, e := Split(b); e != api.OK || !same(got, [][]byte{long}) {
		t.Errorf("Split of a long text: %v, %v", len(got), e)
	}
	if got, e := Split(b[:len(b)-1]); e != api.ErrField || len(got) != 0 {
		t.Errorf("Split of a long text without its end: %v, %v", len(got), e)
	}
	for _, list := range [][][]byte{{longer}, {nil, longer}, {longer, nil}, {make([]byte, 65536+5)}, {make([]byte, 1<<20)}} {
		if b, e := Join(list...); e != api.ErrField || len(b) != 0 {
			t.Errorf("Join of %v texts, one too long: %v bytes, %v", len(list), len(b), e)
		}
	}
}

// P2.2: there may be 65535 texts and no more.
func TestManyTexts(t *testing.T) {
	many := make([][]byte, 65535)
	many[65534] = []byte("end")
	want := append([]byte{255, 255}, make([]byte, 2*65534)...)
	want = append(want, 3, 0, 'e', 'n', 'd')
	b, e := Join(many...)
	if e != api.OK || !bytes.Equal(b, want) {
		t.Errorf("Join of many texts: %v bytes, %v", len(b), e)
	}
	if got, e := Split(b); e != api.OK || !same(got, many) {
		t.Errorf("Split of many texts: %v, %v", len(got), e)
	}
	for _, n := range []int{65536, 65537, 65536 + 300, 1 << 17} {
		if b, e := Join(make([][]byte, n)...); e != api.ErrField || len(b) != 0 {
			t.Errorf("Join of %v texts: %v bytes, %v", n, len(b), e)
		}
	}
}

// A rule that holds everywhere: what is handed in isn't changed, spare room included.
func TestNothingIsChanged(t *testing.T) {
	widths, nums := []int{1, 2, 3, 77, 77}, []uint64{1, 2, 3, 77, 77}
	text, room := []byte("abcdef"), []byte("\x02\x00\x01\x00a\x01\x00bxyz")
	list := [][]byte{text[:2], text[2:4], []byte("x"), []byte("y")}
	b, _ := Put(widths[:3], nums[:3]...)
	b = append(b, 77)
	Get(widths[:3], b[:6])
	Join(list[:2]...)
	Split(room[:8])
	if !slices.Equal(widths, []int{1, 2, 3, 77, 77}) || !slices.Equal(nums, []uint64{1, 2, 3, 77, 77}) {
		t.Errorf("Put changed %v %v", widths, nums)
	}
	if !bytes.Equal(b, []byte{1, 2, 0, 3, 0, 0, 77}) {
		t.Errorf("Get changed %v", b)
	}
	if string(text) != "abcdef" || !same(list, [][]byte{[]byte("ab"), []byte("cd"), []byte("x"), []byte("y")}) {
		t.Errorf("Join changed %q %q", text, list)
	}
	if string(room) != "\x02\x00\x01\x00a\x01\x00bxyz" {
		t.Errorf("Split changed %q", room)
	}
}

// fill writes over bytes, and over their spare room.
func fill(b []byte) {
	b = b[:cap(b)]
	for i := range b {
		b[i] = '!'
	}
}

// A rule that holds everywhere: an answer is memory of its own, spare room too, and so is each text of one answer.
func TestMemoryOfItsOwn(t *testing.T) {
	one := []byte("ab")
	joined, _ := Join(one)
	fill(joined)
	if string(one) != "ab" {
		t.Errorf("Join shares its argument: %q", one)
	}
	joined, _ = Join(one)
	fill(one)
	if string(joined) != "\x01\x00\x02\x00ab" {
		t.Errorf("Join kept its argument: %q", joined)
	}
	const given = "\x04\x00\x01\x00a\x00\x00\x02\x00bc\x01\x00d"
	want := [][]byte{[]byte("a"), nil, []byte("bc"), []byte("d")}
	for i := range want {
		b := append(make([]byte, 0, 99), given...)
		got, _ := Split(b)
		fill(got[i])
		if string(b) != given {
			t.Errorf("text %v of Split shares its argument: %q", i, b)
		}
		got[i] = want[i]
		fill(b)
		if !same(got, want) {
			t.Errorf("text %v of Split shares another's memory, or its argument's: %q", i, got)
		}
	}
}
