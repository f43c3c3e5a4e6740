package slab

import (
	"math"
	"slices"
	"testing"

	"aquifer/api"
	"aquifer/span"
)

// totals are how many sectors a map may be asked to have, about all that the chapter names.
var totals = []int{math.MinInt, math.MinInt + 1, -1024, -64, -1, 0, 1, 3, 4, 5, 6, 63, 64, 65, 67, 68, 69, 127, 128, 129, 150, 191, 192, 193, 500, 959, 960, 961, 1022, 1023, 1024, 1025, 1088, 2048, 4096, math.MaxInt - 1, math.MaxInt}

// nowhere are numbers of sectors that no map has.
var nowhere = []int{math.MinInt, math.MinInt + 1, math.MinInt + 4, math.MinInt + 64, -1 << 32, -1024, -65, -64, -4, -1, 0, 1, 2, 3, 1024, 1025, 1028, 1088, 2048, 4096, 1<<16 + 4, 1<<32 + 4, 1<<58 + 4, math.MaxInt - 4, math.MaxInt - 1, math.MaxInt}

// noSlabs are numbers of slabs that no map has; times 64 some of them go round to those of sectors.
var noSlabs = []int{math.MinInt, math.MinInt + 1, -1 << 58, -1<<58 + 1, -1 << 57, -1024, -16, -2, -1, 16, 17, 64, 1024, 1 << 32, 1 << 57, 1 << 58, 1<<58 + 1, math.MaxInt - 1, math.MaxInt}

// plain is a map written word by word from the chapter: what each sector is that is there.
type plain map[int]string

func newPlain(total int) plain {
	p := plain{}
	for i := 4; i < total && i < 1024; i++ {
		p[i] = "free"
	}
	return p
}

// all are the sectors from one on and below another that are this.
func (p plain) all(what string, from, to int) []int {
	var l []int
	for i := from; i < to; i++ {
		if p[i] == what {
			l = append(l, i)
		}
	}
	return l
}

func (p plain) alloc() (int, api.Errno) {
	var best []int
	for i := range 16 {
		if l := p.all("free", 64*i, 64*i+64); len(l) > len(best) {
			best = l
		}
	}
	if best == nil {
		return 0, 71
	}
	p[best[0]] = "taken"
	return best[0], 0
}

func (p plain) many(n int) ([]int, api.Errno) {
	if n > len(p.all("free", 0, 1024)) {
		return nil, 71
	}
	var l []int
	for len(l) < n {
		i, _ := p.alloc()
		l = append(l, i)
	}
	return l, 0
}

func (p plain) turn(i int, from, to string) api.Errno {
	if p[i] != from {
		return 72
	}
	p[i] = to
	return 0
}

func (p plain) commit() {
	for _, i := range p.all("later", 0, 1024) {
		p[i] = "free"
	}
}

func (p plain) copy() plain {
	c := plain{}
	for i, what := range p {
		c[i] = what
	}
	return c
}

// is: does the map tell of all its sectors what they are to be?
func is(t *testing.T, why string, m *Map, p plain) {
	t.Helper()
	if n, want := m.Count(), len(p.all("free", 0, 1024)); n != want {
		t.Errorf("%v: Count %v, not %v", why, n, want)
	}
	for i := range 16 {
		if n, want := m.Room(i), len(p.all("free", 64*i, 64*i+64)); n != want {
			t.Errorf("%v: Room of %v is %v, not %v", why, i, n, want)
		}
	}
	if l, want := m.Taken(), p.all("taken", 0, 1024); !span.Right(l) || !slices.Equal(span.List(l), want) {
		t.Errorf("%v: Taken %v, not %v", why, l, want)
	}
	if l, want := m.Waiting(), p.all("later", 0, 1024); !span.Right(l) || !slices.Equal(span.List(l), want) {
		t.Errorf("%v: Waiting %v, not %v", why, l, want)
	}
}

// both is a map, and the plain one that it is held against.
type both struct {
	m *Map
	p plain
}

func made(total int) both { return both{New(total), newPlain(total)} }

func (b both) copy() both { return both{b.m.Copy(), b.p.copy()} }

func (b both) alloc(t *testing.T) int {
	t.Helper()
	i, e := b.m.Alloc()
	if want, wrong := b.p.alloc(); i != want || e != wrong {
		t.Fatalf("Alloc: %v %v, not %v %v", i, e, want, wrong)
	}
	return i
}

func (b both) many(t *testing.T, n int) []int {
	t.Helper()
	l, e := b.m.Many(n)
	if want, wrong := b.p.many(n); !slices.Equal(l, want) || e != wrong {
		t.Fatalf("Many of %v: %v %v, not %v %v", n, l, e, want, wrong)
	}
	return l
}

func (b both) take(t *testing.T, l ...int) {
	t.Helper()
	for _, i := range l {
		if e, want := b.m.Take(i), b.p.turn(i, "free", "taken"); e != want {
			t.Errorf("Take of %v, %v: %v, not %v", i, b.p[i], e, want)
		}
	}
}

func (b both) free(t *testing.T, l ...int) {
	t.Helper()
	for _, i := range l {
		if e, want := b.m.Free(i), b.p.turn(i, "taken", "free"); e != want {
			t.Errorf("Free of %v, %v: %v, not %v", i, b.p[i], e, want)
		}
	}
}

func (b both) later(t *testing.T, l ...int) {
	t.Helper()
	for _, i := range l {
		if e, want := b.m.Later(i), b.p.turn(i, "taken", "later"); e != want {
			t.Errorf("Later of %v, %v: %v, not %v", i, b.p[i], e, want)
		}
	}
}

func (b both) commit() {
	b.m.Commit()
	b.p.commit()
}

func (b both) is(t *testing.T, why string) {
	t.Helper()
	is(t, why, b.m, b.p)
}

// from are the numbers from one on and below another.
func from(first, end int) []int {
	var l []int
	for i := first; i < end; i++ {
		l = append(l, i)
	}
	return l
}

// The chapter's example.
func TestExamples(t *testing.T) {
	m := New(128)
	if i, e := m.Alloc(); i != 64 || e != api.OK {
		t.Errorf("Alloc: %v %v", i, e)
	}
	if l, e := m.Many(4); !slices.Equal(l, []int{65, 66, 67, 4}) || e != api.OK {
		t.Errorf("Many of 4: %v %v", l, e)
	}
}

// The section Errors: their numbers.
func TestErrors(t *testing.T) {
	m := New(4)
	if i, e := m.Alloc(); i != 0 || e != 71 {
		t.Errorf("Alloc: %v %v", i, e)
	}
	if l, e := m.Many(1); len(l) != 0 || e != 71 {
		t.Errorf("Many: %v %v", l, e)
	}
	if a, b, c := m.Take(4), m.Free(4), m.Later(4); a != 72 || b != 72 || c != 72 {
		t.Errorf("Take, Free, Later: %v %v %v", a, b, c)
	}
}

// P7.1: of a new map all is free from the ring on, whatever its total.
func TestNew(t *testing.T) {
	for _, c := range []struct{ total, count int }{
		{math.MinInt, 0}, {-1, 0}, {0, 0}, {3, 0}, {4, 0}, {5, 1}, {63, 59}, {64, 60}, {65, 61}, {128, 124},
		{1023, 1019}, {1024, 1020}, {1025, 1020}, {4096, 1020}, {math.MaxInt, 1020},
	} {
		if n := New(c.total).Count(); n != c.count {
			t.Errorf("Count of %v sectors: %v, not %v", c.total, n, c.count)
		}
	}
	for _, total := range totals {
		made(total).is(t, "a new map")
	}
}

// P7.1: just the sectors from Ring to total - 1 are there.
func TestNewHasTheseSectors(t *testing.T) {
	for _, total := range totals {
		there := min(total, 1024)
		for _, i := range append([]int{3, 4, 5, 63, 64, there - 2, there - 1, there, there + 1}, nowhere...) {
			m := New(total)
			want := api.ErrSlab
			if i >= 4 && i < there {
				want = api.OK
			}
			if e := m.Take(i); e != want {
				t.Errorf("Take of %v of %v sectors: %v, not %v", i, total, e, want)
			}
		}
	}
}

// P7.1: Room is of one slab: of the first, the last, one that is there in part, and one that isn't there.
func TestRoom(t *testing.T) {
	for _, c := range []struct{ total, slab, room int }{
		{4, 0, 0}, {5, 0, 1}, {63, 0, 59}, {64, 0, 60}, {64, 1, 0}, {65, 0, 60}, {65, 1, 1}, {65, 2, 0},
		{127, 1, 63}, {128, 1, 64}, {128, 2, 0}, {150, 1, 64}, {150, 2, 22}, {150, 3, 0},
		{1023, 15, 63}, {1024, 15, 64}, {1024, 14, 64}, {1024, 0, 60}, {2000, 15, 64}, {2000, 16, 0}, {2000, 20, 0},
	} {
		if n := New(c.total).Room(c.slab); n != c.room {
			t.Errorf("Room of %v of %v sectors: %v, not %v", c.slab, c.total, n, c.room)
		}
	}
	for _, total := range totals {
		m := New(total)
		for _, i := range noSlabs {
			if n := m.Room(i); n != 0 {
				t.Errorf("Room of %v of %v sectors: %v", i, total, n)
			}
		}
	}
}

// P7.1: what is taken and what will be free has no room, and doesn't count, each in its own slab.
func TestRoomOfWhatIsTaken(t *testing.T) {
	b := made(150)
	b.take(t, 4, 63, 64, 127, 128, 149)
	b.is(t, "the ends of slabs taken")
	if a, c, d := b.m.Room(0), b.m.Room(1), b.m.Room(2); a != 58 || c != 62 || d != 20 || b.m.Count() != 140 {
		t.Errorf("the ends of slabs taken: %v %v %v", a, c, d)
	}
	b.later(t, 63, 64, 149)
	b.is(t, "some of them will be free")
	if a, c, d := b.m.Room(0), b.m.Room(1), b.m.Room(2); a != 58 || c != 62 || d != 20 || b.m.Count() != 140 {
		t.Errorf("some of them will be free: %v %v %v", a, c, d)
	}
	b.free(t, 4, 128)
	b.is(t, "some are free")
	b.commit()
	b.is(t, "a Commit")
	if a, c, d := b.m.Room(0), b.m.Room(1), b.m.Room(2); a != 60 || c != 63 || d != 22 || b.m.Count() != 145 {
		t.Errorf("a Commit: %v %v %v", a, c, d)
	}
}

// P7.1: Taken and Waiting are sets: what is side by side is one span, over the ends of slabs, too.
func TestTakenAndWaitingAreSets(t *testing.T) {
	b := made(150)
	b.take(t, 130, 5, 149, 65, 4, 63, 64, 62, 128)
	want := []api.Span{{Start: 4, Len: 2}, {Start: 62, Len: 4}, {Start: 128, Len: 1}, {Start: 130, Len: 1}, {Start: 149, Len: 1}}
	if l := b.m.Taken(); !slices.Equal(l, want) || len(b.m.Waiting()) != 0 {
		t.Errorf("Taken: %v, Waiting: %v", l, b.m.Waiting())
	}
	b.later(t, 64, 149, 63, 5)
	want = []api.Span{{Start: 4, Len: 1}, {Start: 62, Len: 1}, {Start: 65, Len: 1}, {Start: 128, Len: 1}, {Start: 130, Len: 1}}
	wait := []api.Span{{Start: 5, Len: 1}, {Start: 63, Len: 2}, {Start: 149, Len: 1}}
	if l, w := b.m.Taken(), b.m.Waiting(); !slices.Equal(l, want) || !slices.Equal(w, wait) {
		t.Errorf("Taken: %v, Waiting: %v", l, w)
	}
	b.is(t, "some will be free")
}

// P7.1: maps of which nothing is taken, all is, and all but one.
func TestAllIsTaken(t *testing.T) {
	for _, total := range []int{5, 6, 63, 64, 65, 128, 1023, 1024} {
		b := made(total)
		if l := b.m.Taken(); len(l) != 0 {
			t.Errorf("of %v nothing taken: %v", total, l)
		}
		all := []api.Span{{Start: 4, Len: total - 4}}
		b.take(t, from(4, total)...)
		b.is(t, "all taken")
		if l := b.m.Taken(); !slices.Equal(l, all) || b.m.Count() != 0 {
			t.Errorf("of %v all taken: %v, %v are free", total, l, b.m.Count())
		}
		for _, i := range []int{4, 5, 63, 64, 65, total - 2, total - 1} {
			if b.p[i] == "" {
				continue
			}
			c := b.copy()
			c.free(t, i)
			c.is(t, "all taken but one")
			if c.m.Count() != 1 || c.alloc(t) != i {
				t.Errorf("of %v all but %v taken: %v are free", total, i, c.m.Count())
			}
			c.is(t, "all taken again")
		}
		b.later(t, from(4, total)...)
		if l := b.m.Waiting(); !slices.Equal(l, all) || len(b.m.Taken()) != 0 || b.m.Count() != 0 {
			t.Errorf("of %v all waiting: %v, %v are free", total, l, b.m.Count())
		}
		b.commit()
		b.is(t, "all free")
		if b.m.Count() != total-4 {
			t.Errorf("of %v all free: %v are", total, b.m.Count())
		}
	}
}

// P7.1: a copy is alike, and what is done to it or to what it came of is done to that one alone.
func TestCopy(t *testing.T) {
	changes := map[string]func(b both){
		"Alloc":  func(b both) { b.alloc(t) },
		"Many":   func(b both) { b.many(t, 9) },
		"Take":   func(b both) { b.take(t, 70, 100) },
		"Free":   func(b both) { b.free(t, 4, 65) },
		"Later":  func(b both) { b.later(t, 4, 65) },
		"Commit": func(b both) { b.commit() },
		"a Copy": func(b both) { b.copy().alloc(t) },
	}
	for first, change := range changes {
		for second, other := range changes {
			b := made(150)
			b.take(t, 4, 5, 64, 65, 66, 149)
			b.later(t, 5, 66)
			c := b.copy()
			c.is(t, "a copy")
			change(c)
			b.is(t, "the copy changed: "+first)
			c.is(t, first)
			other(b)
			b.is(t, second)
			c.is(t, "what it came of changed: "+second)
			change(b)
			other(c)
			b.is(t, first+" behind "+second)
			c.is(t, second+" behind "+first)
		}
	}
}

// P7.1: a copy has just the sectors that there were, and a copy of a copy is alike.
func TestCopyOfAllTotals(t *testing.T) {
	for _, total := range totals {
		b := made(total)
		c := b.copy().copy()
		c.is(t, "a copy of a copy")
		b.many(t, b.m.Count())
		c.is(t, "a copy of a copy, all taken of the first one")
		c.many(t, c.m.Count())
		c.is(t, "all taken of it, too")
	}
}

// The rules: what is answered is new memory.
func TestAnswersAreNewMemory(t *testing.T) {
	b := made(150)
	spoil := func(l []int) {
		l = l[:cap(l)]
		for i := range l {
			l[i] = 5
		}
	}
	spoil(b.many(t, 9))
	b.later(t, 65, 67, 69)
	for range 2 {
		for _, l := range [][]api.Span{b.m.Taken(), b.m.Waiting()} {
			l = l[:cap(l)]
			for i := range l {
				l[i] = api.Span{Start: 5, Len: 5}
			}
		}
		b.is(t, "answers written over")
	}
	one, two := b.many(t, 5), b.many(t, 5)
	keep := slices.Clone(two)
	spoil(one)
	if !slices.Equal(two, keep) {
		t.Errorf("one answer of Many written over, another one is %v, not %v", two, keep)
	}
}

// P7.2: all of a map is given out, in this order, and then there is nothing.
func TestAllocUntilNothingIsFree(t *testing.T) {
	for _, total := range totals {
		b := made(total)
		for range b.m.Count() {
			b.alloc(t)
		}
		for range 2 {
			if i, e := b.m.Alloc(); i != 0 || e != api.ErrSpace {
				t.Errorf("Alloc of %v sectors that are taken: %v %v", total, i, e)
			}
			b.is(t, "nothing is free")
		}
	}
}

// P7.2: the slab with the most free sectors is asked, the first of these, and its lowest free sector.
func TestAllocOfSlabs(t *testing.T) {
	for _, c := range []struct {
		why   string
		total int
		taken []int
		want  []int
	}{
		{"one slab", 64, nil, []int{4, 5, 6, 7}},
		{"one sector", 5, nil, []int{4}},
		{"a part of a second slab", 65, nil, []int{4, 5}},
		{"a second slab with one less", 123, nil, []int{4, 5, 64, 6, 65}},
		{"as many in both", 124, nil, []int{4, 64, 5, 65}},
		{"a second slab with one more", 125, nil, []int{64, 4, 65, 5}},
		{"a whole second slab", 128, nil, []int{64, 65, 66, 67, 4, 68, 5, 69}},
		{"three slabs", 192, nil, []int{64, 128, 65, 129, 66, 130, 67, 131, 4, 68, 132}},
		{"all slabs", 1024, nil, []int{64, 128, 192, 256, 320, 384, 448, 512, 576, 640, 704, 768, 832, 896, 960, 65, 129}},
		{"the last slab without one", 1023, from(64, 960), []int{960, 961, 962, 4, 963}},
		{"the last slab alone", 1024, from(4, 960), []int{960, 961}},
		{"the lowest are taken", 64, []int{4, 5, 7}, []int{6, 8, 9}},
		{"gaps in a slab", 128, []int{64, 66, 67, 69}, []int{4, 65, 5, 68, 6, 70}},
		{"the last sector of a slab", 192, from(4, 127), from(128, 191)},
		{"a slab in the middle", 256, []int{70, 200}, []int{128, 64, 129, 192, 65}},
	} {
		b := made(c.total)
		b.take(t, c.taken...)
		for _, want := range c.want {
			if i := b.alloc(t); i != want {
				t.Errorf("%v: Alloc %v, not %v", c.why, i, want)
			}
		}
		b.is(t, c.why)
	}
}

// P7.2: what will be free isn't given out, and doesn't count for its slab, up to a Commit.
func TestAllocOfWhatWillBeFree(t *testing.T) {
	b := made(128)
	b.take(t, from(64, 74)...)
	b.later(t, from(64, 74)...)
	if i := b.alloc(t); i != 4 {
		t.Errorf("Alloc ahead of a Commit: %v", i)
	}
	b.commit()
	if i := b.alloc(t); i != 64 {
		t.Errorf("Alloc behind a Commit: %v", i)
	}
	b = made(6)
	b.take(t, 4, 5)
	b.later(t, 5)
	if i, e := b.m.Alloc(); i != 0 || e != api.ErrSpace {
		t.Errorf("Alloc of what will be free: %v %v", i, e)
	}
	if l, e := b.m.Many(1); len(l) != 0 || e != api.ErrSpace {
		t.Errorf("Many of what will be free: %v %v", l, e)
	}
	b.commit()
	if i := b.alloc(t); i != 5 {
		t.Errorf("Alloc of what became free: %v", i)
	}
	b.free(t, 4)
	if i := b.alloc(t); i != 4 {
		t.Errorf("Alloc of what is free: %v", i)
	}
}

// P7.2: Many is so many Allocs, one after the other.
func TestMany(t *testing.T) {
	for _, total := range []int{4, 5, 64, 65, 128, 150, 1023, 1024} {
		for _, n := range []int{1, 2, 4, 59, 60, 61, 124, 125, 146, 1019, 1020} {
			b := made(total)
			c := b.copy()
			l := b.many(t, n)
			b.is(t, "Many")
			if n > total-4 {
				continue
			}
			if len(l) != n {
				t.Errorf("Many of %v of %v sectors: %v", n, total, l)
			}
			for at, i := range l {
				if j := c.alloc(t); i != j {
					t.Errorf("Many of %v of %v sectors: number %v is %v, not %v", n, total, at, i, j)
				}
			}
			if b.m.Count() != total-4-n || c.m.Count() != b.m.Count() {
				t.Errorf("Many of %v of %v sectors: then %v are free", n, total, b.m.Count())
			}
		}
	}
	if l, e := New(128).Many(9); !slices.Equal(l, []int{64, 65, 66, 67, 4, 68, 5, 69, 6}) || e != api.OK {
		t.Errorf("Many of 9 of 128 sectors: %v %v", l, e)
	}
}

// P7.2: just all can be had at once, and of one more nothing is taken.
func TestManyOfAllAndMore(t *testing.T) {
	for _, total := range totals {
		b := made(total)
		b.take(t, 4, 64, 65, 1000)
		b.later(t, 65)
		count := b.m.Count()
		for _, n := range []int{count + 1, count + 2, count + 64, 1021, 1024, 1 << 32, math.MaxInt - 1, math.MaxInt} {
			if l, e := b.m.Many(n); len(l) != 0 || e != api.ErrSpace {
				t.Errorf("Many of %v where %v are free: %v %v", n, count, l, e)
			}
			b.is(t, "Many of more than are free")
		}
		if l := b.many(t, count); len(l) != count || b.m.Count() != 0 {
			t.Errorf("Many of all %v: %v, then %v are free", count, l, b.m.Count())
		}
		b.is(t, "Many of all")
		if l, e := b.m.Many(1); len(l) != 0 || e != api.ErrSpace {
			t.Errorf("Many of 1 where nothing is free: %v %v", l, e)
		}
	}
}

// P7.2: of numbers below 1 it is none, and no error, whether anything is free or not.
func TestManyOfNone(t *testing.T) {
	for _, total := range totals {
		b := made(total)
		for range 2 {
			for _, n := range []int{0, -1, -2, -64, -1 << 32, math.MinInt + 1, math.MinInt} {
				if l, e := b.m.Many(n); len(l) != 0 || e != api.OK {
					t.Errorf("Many of %v of %v sectors: %v %v", n, total, l, e)
				}
				b.is(t, "Many of none")
			}
			b.many(t, b.m.Count())
		}
	}
}

// P7.3: each of the three asks what the sector is, and makes it what it says.
func TestTurns(t *testing.T) {
	for _, total := range []int{65, 128, 1024} {
		for _, i := range []int{4, 5, 63, 64, total - 1} {
			b := made(total)
			b.free(t, i)
			b.later(t, i)
			b.is(t, "what is free stays so")
			b.take(t, i)
			b.is(t, "Take")
			b.take(t, i)
			b.is(t, "what is taken stays so")
			c := b.copy()
			b.free(t, i)
			b.is(t, "Free")
			b.free(t, i)
			b.later(t, i)
			b.is(t, "what is free again stays so")
			b.take(t, i)
			b.is(t, "Take of what is free again")
			c.later(t, i)
			c.is(t, "Later")
			c.take(t, i)
			c.free(t, i)
			c.later(t, i)
			c.is(t, "what will be free stays so")
			c.commit()
			c.is(t, "Commit")
			c.free(t, i)
			c.later(t, i)
			c.is(t, "what became free stays so")
			c.take(t, i)
			c.is(t, "Take of what became free")
		}
	}
}

// P7.3: the same, each answer by its number.
func TestTurnsAnswer(t *testing.T) {
	m := New(64)
	wants := func(why string, take, free, later api.Errno) {
		t.Helper()
		if e := m.Copy().Take(9); e != take {
			t.Errorf("%v: Take %v, not %v", why, e, take)
		}
		if e := m.Copy().Free(9); e != free {
			t.Errorf("%v: Free %v, not %v", why, e, free)
		}
		if e := m.Copy().Later(9); e != later {
			t.Errorf("%v: Later %v, not %v", why, e, later)
		}
	}
	wants("free", 0, 72, 72)
	m.Take(9)
	wants("taken", 72, 0, 0)
	m.Later(9)
	wants("later", 72, 72, 72)
	m.Commit()
	wants("free by a Commit", 0, 72, 72)
	m.Take(9)
	m.Commit()
	wants("taken, behind a Commit", 72, 0, 0)
	m.Free(9)
	wants("free", 0, 72, 72)
}

// P7.3: sectors that aren't there have no state, and get none.
func TestTurnsOfNoSector(t *testing.T) {
	for _, total := range totals {
		b := made(total)
		b.many(t, b.m.Count()/2)
		there := min(max(total, 4), 1024)
		for _, i := range append([]int{there, there + 1, there + 64}, nowhere...) {
			if a, c, d := b.m.Take(i), b.m.Free(i), b.m.Later(i); a != api.ErrSlab || c != api.ErrSlab || d != api.ErrSlab {
				t.Errorf("Take, Free, Later of %v of %v sectors: %v %v %v", i, total, a, c, d)
			}
		}
		b.commit()
		b.is(t, "no sector was turned")
	}
}

// P7.3: a Commit makes all free that will be, and nothing else.
func TestCommit(t *testing.T) {
	for _, total := range []int{math.MinInt, 0, 4, 5, 64, 65, 150, 1024, math.MaxInt} {
		b := made(total)
		b.commit()
		b.is(t, "a Commit of a new map")
		all := b.many(t, b.m.Count())
		b.commit()
		b.is(t, "a Commit where all is taken")
		for n, i := range all {
			switch n % 3 {
			case 0:
				b.later(t, i)
			case 1:
				b.free(t, i)
			}
		}
		b.is(t, "ahead of a Commit")
		b.commit()
		b.is(t, "a Commit")
		if len(b.m.Waiting()) != 0 {
			t.Errorf("behind a Commit there waits %v", b.m.Waiting())
		}
		b.commit()
		b.is(t, "a Commit behind a Commit")
	}
}

// P7.1 to P7.3: long mixed runs, held against the plain map.
func TestMixedRuns(t *testing.T) {
	seed := uint32(7)
	next := func(n int) int {
		seed = seed*1664525 + 1013904223
		return int(seed>>8) % n
	}
	for _, total := range []int{5, 7, 64, 66, 130, 200, 1024} {
		b := made(total)
		for round := range 2000 {
			i := next(total+8) - 4
			switch next(8) {
			case 0:
				b.alloc(t)
			case 1:
				b.many(t, next(total/4+4)-2)
			case 2:
				b.take(t, i)
			case 3, 4:
				b.free(t, i, next(total), next(total), next(total))
			case 5, 6:
				b.later(t, i, next(total))
			case 7:
				if next(4) == 0 {
					b.commit()
				} else {
					b = b.copy()
				}
			}
			if round%10 == 0 {
				b.is(t, "a mixed run")
			}
			if t.Failed() {
				t.Fatalf("%v sectors, round %v", total, round)
			}
		}
		b.is(t, "the end of a mixed run")
	}
}
