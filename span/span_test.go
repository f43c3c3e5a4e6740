package span

import (
	"math"
	"slices"
	"testing"

	"aquifer/api"
)

func at(start, n int) api.Span { return api.Span{Start: start, Len: n} }

func set(l ...api.Span) []api.Span { return l }

// odd are lists that are no sets: of them no answer is promised but that there is one.
func odd() [][]api.Span {
	ends := []int{math.MinInt, math.MinInt + 1, -4096, -1, 0, 1, 4095, 4096, math.MaxInt - 1, math.MaxInt}
	var out [][]api.Span
	for _, start := range ends {
		for _, n := range ends {
			out = append(out, set(at(start, n)), set(at(3, 4), at(start, n)), set(at(start, n), at(3, 4)))
		}
	}
	return append(out,
		set(at(9, 1), at(1, 1)),
		set(at(1, 4), at(2, 1)),
		set(at(1, 4), at(4, 9)),
		slices.Repeat(set(at(0, 4096)), 1000))
}

// P1.1: a set's spans rise, don't meet, don't touch, and have numbers from 0 to 4095 alone.
func TestRight(t *testing.T) {
	for _, c := range []struct {
		what string
		l    []api.Span
		want bool
	}{
		{"nothing", nil, true},
		{"an empty list", set(), true},
		{"the first number", set(at(0, 1)), true},
		{"the last number", set(at(4095, 1)), true},
		{"all numbers", set(at(0, 4096)), true},
		{"a gap of one", set(at(1, 2), at(4, 1)), true},
		{"three that rise", set(at(0, 1), at(2, 4), at(4000, 96)), true},
		{"touching", set(at(1, 2), at(3, 1)), false},
		{"meeting", set(at(1, 3), at(3, 1)), false},
		{"one in another", set(at(1, 9), at(3, 1)), false},
		{"the same twice", set(at(5, 1), at(5, 1)), false},
		{"falling", set(at(5, 1), at(1, 1)), false},
		{"touching behind a gap", set(at(0, 1), at(3, 1), at(4, 1)), false},
		{"no length", set(at(1, 0)), false},
		{"no length behind the end", set(at(4096, 0)), false},
		{"a length below 0", set(at(5, -1)), false},
		{"a start below 0", set(at(-1, 2)), false},
		{"a start above the range", set(at(4096, 1)), false},
		{"one too long", set(at(0, 4097)), false},
		{"leaving the range", set(at(4095, 2)), false},
		{"a good one, then one that leaves", set(at(0, 1), at(4000, 97)), false},
		{"the greatest start", set(at(math.MaxInt, 1)), false},
		{"the greatest length", set(at(0, math.MaxInt)), false},
		{"a sum that goes round", set(at(1, math.MaxInt)), false},
		{"a sum that goes round to 0", set(at(math.MaxInt, math.MaxInt)), false},
		{"the least start", set(at(math.MinInt, 1)), false},
		{"the least start, the greatest length", set(at(math.MinInt, math.MaxInt)), false},
		{"the least length", set(at(0, math.MinInt)), false},
		{"both the least", set(at(math.MinInt, math.MinInt)), false},
	} {
		if got := Right(c.l); got != c.want {
			t.Errorf("%s: %v", c.what, got)
		}
	}
}

// P1.1: Of leaves out what can't be in a set, and doesn't mind order or repetition.
func TestOf(t *testing.T) {
	for _, c := range []struct {
		nums []int
		want []api.Span
	}{
		{nil, nil},
		{[]int{0}, set(at(0, 1))},
		{[]int{4095}, set(at(4095, 1))},
		{[]int{5, 3, 4, 9}, set(at(3, 3), at(9, 1))},
		{[]int{7, 1, 2, 3, 7, 7}, set(at(1, 3), at(7, 1))},
		{[]int{4, 2, 0}, set(at(0, 1), at(2, 1), at(4, 1))},
		{[]int{-1, 0, 4095, 4096}, set(at(0, 1), at(4095, 1))},
		{[]int{-1, 4096, math.MinInt, math.MaxInt}, nil},
		{[]int{4096 + 7, -4096 + 7, 7}, set(at(7, 1))},
	} {
		given := slices.Clone(c.nums)
		if got := Of(given...); !slices.Equal(got, c.want) {
			t.Errorf("Of %v: %v", c.nums, got)
		}
		if !slices.Equal(given, c.nums) {
			t.Errorf("Of %v changed them: %v", c.nums, given)
		}
	}
	all := make([]int, 0, 8192)
	for n := 6000; n > -2000; n-- {
		all = append(all, n)
	}
	if got := Of(all...); !slices.Equal(got, set(at(0, 4096))) {
		t.Errorf("Of all numbers: %v", got)
	}
}

// P1.1: Has, Count and List tell one set's numbers.
func TestNumbersOfASet(t *testing.T) {
	for _, c := range []struct {
		l    []api.Span
		want []int
	}{
		{nil, nil},
		{set(at(0, 1)), []int{0}},
		{set(at(4095, 1)), []int{4095}},
		{set(at(1, 3), at(7, 1), at(4094, 2)), []int{1, 2, 3, 7, 4094, 4095}},
	} {
		if got := List(c.l); !slices.Equal(got, c.want) {
			t.Errorf("List %v: %v", c.l, got)
		}
		if got := Count(c.l); got != len(c.want) {
			t.Errorf("Count %v: %v", c.l, got)
		}
		for n := -2; n < 4099; n++ {
			if got := Has(c.l, n); got != slices.Contains(c.want, n) {
				t.Errorf("Has %v, %v: %v", c.l, n, got)
			}
		}
		for _, n := range []int{math.MinInt, math.MaxInt} {
			if Has(c.l, n) {
				t.Errorf("Has %v, %v", c.l, n)
			}
		}
	}
	all := set(at(0, 4096))
	if l := List(all); Count(all) != 4096 || len(l) != 4096 || l[0] != 0 || l[4095] != 4095 || !slices.IsSorted(l) {
		t.Errorf("all numbers: %v", l)
	}
}

// some are those of the five numbers from base on whose bits are set.
func some(base, bits int) []int {
	var nums []int
	for i := range 5 {
		if bits>>i&1 == 1 {
			nums = append(nums, base+i)
		}
	}
	return nums
}

// P1.2: of every two sets of five numbers, at both ends of the range and within.
func TestJoinCutBoth(t *testing.T) {
	for _, base := range []int{0, 2000, 4091} {
		for x := range 32 {
			for y := range 32 {
				a, b := Of(some(base, x)...), Of(some(base, y)...)
				for _, c := range []struct {
					what string
					call func(a, b []api.Span) []api.Span
					bits int
				}{{"Join", Join, x | y}, {"Cut", Cut, x &^ y}, {"Both", Both, x & y}} {
					got := c.call(a, b)
					if !Right(got) || !slices.Equal(List(got), some(base, c.bits)) {
						t.Errorf("%s %v %v: %v", c.what, a, b, got)
					}
				}
				if !slices.Equal(List(a), some(base, x)) || !slices.Equal(List(b), some(base, y)) {
					t.Fatalf("%v, %v were changed: %v %v", some(base, x), some(base, y), a, b)
				}
			}
		}
	}
}

// P1.2: spans that touch or meet become one, spans are cut in two, and all numbers are a set like others.
func TestJoinCutBothOfLongSpans(t *testing.T) {
	all := set(at(0, 4096))
	a, b := set(at(10, 10), at(30, 10)), set(at(20, 10), at(35, 100))
	for _, c := range []struct {
		what      string
		got, want []api.Span
	}{
		{"Join touching", Join(a, b), set(at(10, 125))},
		{"Join of nothing", Join(nil, nil), nil},
		{"Join with nothing", Join(a, nil), a},
		{"Join of nothing with", Join(nil, a), a},
		{"Join with all", Join(all, a), all},
		{"Cut", Cut(a, b), set(at(10, 10), at(30, 5))},
		{"Cut the other way", Cut(b, a), set(at(20, 10), at(40, 95))},
		{"Cut from all", Cut(all, a), set(at(0, 10), at(20, 10), at(40, 4056))},
		{"Cut all", Cut(a, all), nil},
		{"Cut nothing", Cut(a, nil), a},
		{"Cut from nothing", Cut(nil, a), nil},
		{"Both", Both(a, b), set(at(35, 5))},
		{"Both with all", Both(a, all), a},
		{"Both of all", Both(all, all), all},
		{"Both with nothing", Both(a, nil), nil},
		{"Both of nothing with", Both(nil, a), nil},
	} {
		if !slices.Equal(c.got, c.want) {
			t.Errorf("%s: %v", c.what, c.got)
		}
	}
}

// P1.3: the first span that is long enough, not the best.
func TestFirst(t *testing.T) {
	l := set(at(0, 1), at(3, 3), at(9, 8), at(4000, 96))
	for _, c := range []struct {
		l    []api.Span
		many int
		want api.Span
		ok   bool
	}{
		{Of(5, 3, 4, 9), 2, at(3, 2), true},
		{l, 1, at(0, 1), true},
		{l, 2, at(3, 2), true},
		{l, 3, at(3, 3), true},
		{l, 4, at(9, 4), true},
		{l, 9, at(4000, 9), true},
		{l, 96, at(4000, 96), true},
		{l, 97, at(0, 0), false},
		{l, 0, at(0, 0), false},
		{l, -1, at(0, 0), false},
		{l, math.MinInt, at(0, 0), false},
		{l, math.MaxInt, at(0, 0), false},
		{nil, 0, at(0, 0), false},
		{nil, 1, at(0, 0), false},
		{set(at(0, 4096)), 4096, at(0, 4096), true},
		{set(at(0, 4096)), 4097, at(0, 0), false},
		{set(at(4095, 1)), 1, at(4095, 1), true},
	} {
		if got, ok := First(c.l, c.many); got != c.want || ok != c.ok {
			t.Errorf("First %v, %v: %v %v", c.l, c.many, got, ok)
		}
	}
}

// P1: every call ends, without a panic, whatever the lists; and Right knows these for what they are.
func TestOddLists(t *testing.T) {
	for _, l := range odd() {
		given := slices.Clone(l)
		for _, n := range []int{math.MinInt, -1, 0, 4095, 4096, math.MaxInt} {
			Has(l, n)
			First(l, n)
		}
		Count(l)
		if n := len(List(l)); n > api.MaxSector {
			t.Errorf("%v: %v numbers", l, n)
		}
		for _, other := range [][]api.Span{nil, set(at(0, 4096)), l} {
			for _, got := range [][]api.Span{Join(l, other), Join(other, l), Cut(l, other), Cut(other, l), Both(l, other), Both(other, l)} {
				if !Right(got) {
					t.Errorf("%v, %v: %v", l, other, got)
				}
			}
		}
		if !slices.Equal(l, given) {
			t.Errorf("%v was changed: %v", given, l)
		}
	}
	if Right(slices.Repeat(set(at(0, 4096)), 2)) {
		t.Error("all numbers twice are a set")
	}
}

// A rule that holds everywhere: what is handed in isn't changed, spare room included, and an answer shares no memory with it.
func TestMemoryOfItsOwn(t *testing.T) {
	room := set(at(1, 3), at(7, 2), at(99, 99), at(99, 99))
	want := slices.Clone(room)
	a := room[:2]
	for _, other := range [][]api.Span{nil, set(at(3, 2)), set(at(0, 4096)), a} {
		for _, got := range [][]api.Span{Join(a, other), Join(other, a), Cut(a, other), Both(a, other), Both(other, a)} {
			got = got[:cap(got)]
			for i := range got {
				got[i] = at(-5, -5)
			}
		}
		if !slices.Equal(room, want) {
			t.Fatalf("with %v: %v", other, room)
		}
	}
}

// The walk through a set's numbers ends as soon as it is wished, within a span and between two.
func TestNumbersEnd(t *testing.T) {
	l := set(at(1, 3), at(7, 2))
	for many := 1; many <= 5; many++ {
		var got []int
		for n := range numbers(l) {
			got = append(got, n)
			if len(got) == many {
				break
			}
		}
		if !slices.Equal(got, []int{1, 2, 3, 7, 8}[:many]) {
			t.Errorf("%v: %v", many, got)
		}
	}
}
