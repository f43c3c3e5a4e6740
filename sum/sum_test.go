package sum

import (
	"bytes"
	"hash/crc32"
	"math"
	"testing"
)

// library is CRC-32C as Go's library has it.
func library(sum uint32, b []byte) uint32 {
	return crc32.Update(sum, crc32.MakeTable(crc32.Castagnoli), b)
}

// mixed is so many bytes without a plain pattern, others for each seed.
func mixed(seed uint64, many int) []byte {
	b := make([]byte, many)
	for i := range b {
		seed = seed*6364136223846793005 + 1442695040888963407
		b[i] = byte(seed >> 56)
	}
	return b
}

// sums are some that a call may be given: the least and the greatest, the polynomial in both orders, each bit alone and all but it.
func sums() []uint32 {
	l := []uint32{0, math.MaxUint32, 0x82F63B78, 0x1EDC6F41, 0xE3069283}
	for i := range 32 {
		l = append(l, 1<<i, ^uint32(1<<i))
	}
	return l
}

// P3.1: sums that are known of CRC-32C, those of RFC 3720 among them.
func TestKnownSums(t *testing.T) {
	rising, falling := make([]byte, 32), make([]byte, 32)
	for i := range 32 {
		rising[i], falling[31-i] = byte(i), byte(i)
	}
	for _, c := range []struct {
		what string
		b    []byte
		want uint32
	}{
		{"none", nil, 0},
		{"an empty list", []byte{}, 0},
		{"a", []byte("a"), 0xC1D04330},
		{"abc", []byte("abc"), 0x364B3FB7},
		{"the digits", []byte("123456789"), 0xE3069283},
		{"32 zeros", make([]byte, 32), 0x8A9136AA},
		{"32 ones", bytes.Repeat([]byte{255}, 32), 0x62A8AB43},
		{"32 that rise", rising, 0x46DD794E},
		{"32 that fall", falling, 0x113FDB5C},
	} {
		if x := Of(c.b); x != c.want {
			t.Errorf("Of %s: %#x, not %#x", c.what, x, c.want)
		}
		if x := More(0, c.b); x != c.want {
			t.Errorf("More of 0 and %s: %#x, not %#x", c.what, x, c.want)
		}
	}
}

// P3.1: of each byte alone, behind each sum, it is as the library has it.
func TestEachByte(t *testing.T) {
	for x := range 256 {
		b := []byte{byte(x)}
		if got, want := Of(b), library(0, b); got != want {
			t.Errorf("Of %v: %#x, not %#x", b, got, want)
		}
		for _, sum := range sums() {
			if got, want := More(sum, b), library(sum, b); got != want {
				t.Errorf("More of %#x and %v: %#x, not %#x", sum, b, got, want)
			}
		}
	}
}

// P3.1: so it is of bytes of any length.
func TestEachLength(t *testing.T) {
	for many := range 600 {
		b := mixed(uint64(many), many)
		if got, want := Of(b), library(0, b); got != want {
			t.Errorf("Of %v bytes: %#x, not %#x", many, got, want)
		}
		for _, sum := range sums() {
			if got, want := More(sum, b), library(sum, b); got != want {
				t.Errorf("More of %#x and %v bytes: %#x, not %#x", sum, many, got, want)
			}
		}
	}
	b := mixed(7, 1<<20+3)
	if got, want := Of(b), library(0, b); got != want {
		t.Errorf("Of many bytes: %#x, not %#x", got, want)
	}
}

// P3.1: the sum of bytes and more behind them is More of the sum of the first ones, wherever they are parted.
func TestParted(t *testing.T) {
	b := mixed(1, 128)
	whole := Of(b)
	for i := range len(b) + 1 {
		if got := More(Of(b[:i]), b[i:]); got != whole {
			t.Errorf("parted at %v: %#x, not %#x", i, got, whole)
		}
		for j := i; j <= len(b); j++ {
			if got := More(More(Of(b[:i]), b[i:j]), b[j:]); got != whole {
				t.Errorf("parted at %v and %v: %#x, not %#x", i, j, got, whole)
			}
		}
	}
	one := uint32(0)
	for i := range b {
		one = More(one, b[i:i+1])
	}
	if one != whole {
		t.Errorf("byte by byte: %#x, not %#x", one, whole)
	}
}

// P3.1: no bytes behind others leave each sum as it is.
func TestNoMore(t *testing.T) {
	for _, sum := range sums() {
		if got := More(sum, nil); got != sum {
			t.Errorf("More of %#x and nil: %#x", sum, got)
		}
		if got := More(sum, []byte{}); got != sum {
			t.Errorf("More of %#x and an empty list: %#x", sum, got)
		}
	}
}

// P3.1: zeros count, in front and behind.
func TestZerosCount(t *testing.T) {
	seen := map[uint32]int{}
	for many := range 129 {
		sum := Of(make([]byte, many))
		if first, is := seen[sum]; is {
			t.Errorf("%v zeros have the sum of %v: %#x", many, first, sum)
		}
		seen[sum] = many
	}
	if Of([]byte("a")) == Of([]byte("\x00a")) || Of([]byte("a")) == Of([]byte("a\x00")) {
		t.Error("a zero beside a letter doesn't count")
	}
}

// P3.1: one turned bit or two of a sector's bytes give another sum.
func TestFaults(t *testing.T) {
	b := mixed(2, 128)
	whole := Of(b)
	for i := range 8 * len(b) {
		b[i/8] ^= 1 << (i % 8)
		if Of(b) == whole {
			t.Errorf("bit %v isn't found", i)
		}
		for j := i + 1; j < 8*len(b); j += 37 {
			b[j/8] ^= 1 << (j % 8)
			if Of(b) == whole {
				t.Errorf("bits %v and %v aren't found", i, j)
			}
			b[j/8] ^= 1 << (j % 8)
		}
		b[i/8] ^= 1 << (i % 8)
	}
}

// A rule that holds everywhere: what is handed in isn't changed, spare room included.
func TestNothingIsChanged(t *testing.T) {
	room := mixed(3, 200)
	want := bytes.Clone(room)
	Of(room[:100])
	More(77, room[:100])
	if !bytes.Equal(room, want) {
		t.Errorf("changed: %v", room)
	}
}

// P2: what is answered hangs on the arguments alone: not on calls before, nor on spare room.
func TestArgumentsAlone(t *testing.T) {
	for range 3 {
		room := []byte("123456789 and more")
		if x := Of(room[:9]); x != 0xE3069283 {
			t.Errorf("Of the digits: %#x", x)
		}
		More(5, room)
		if x := More(Of(room[:4]), room[4:9]); x != 0xE3069283 {
			t.Errorf("More of the digits: %#x", x)
		}
		room[9]++
		if x := Of(room[:9]); x != 0xE3069283 {
			t.Errorf("Of the digits ahead of others: %#x", x)
		}
	}
}
