package slog

import (
	"bytes"
	"math"
	"slices"
	"testing"

	"aquifer/api"
	"aquifer/span"
)

func sp(start, many int) api.Span { return api.Span{Start: start, Len: many} }

func take(start, many int) api.Move { return api.Move{Take: true, At: sp(start, many)} }

func free(start, many int) api.Move { return api.Move{Take: false, At: sp(start, many)} }

func spans(l ...api.Span) []api.Span { return l }

func moves(l ...api.Move) []api.Move { return l }

// rightSpans are spans that can be, at the edges.
func rightSpans() []api.Span {
	return spans(sp(0, 1), sp(0, 2), sp(0, 255), sp(0, 256), sp(0, 4095), sp(0, 4096), sp(1, 1), sp(1, 4094), sp(1, 4095), sp(255, 1), sp(256, 1),
		sp(257, 256), sp(2048, 2048), sp(4000, 96), sp(4094, 1), sp(4094, 2), sp(4095, 1))
}

// wrongSpans are spans that can't be: with a number below 0, with one above 4095, with no numbers; some have sums that go round.
func wrongSpans() []api.Span {
	return spans(sp(-1, 1), sp(-1, 2), sp(-1, 4097), sp(-5, 3), sp(-4096, 1), sp(-4096, 4096), sp(0, 4097), sp(1, 4096), sp(2048, 2049), sp(4000, 97),
		sp(4095, 2), sp(4096, 1), sp(4097, 1), sp(8192, 1), sp(65536, 1), sp(65541, 1), sp(1<<32+5, 1), sp(5, 1<<32+1), sp(5, 65537),
		sp(0, 0), sp(5, 0), sp(4095, 0), sp(4096, 0), sp(-1, 0), sp(5, -1), sp(0, -1), sp(4096, -1), sp(4097, -2), sp(10, -4096),
		sp(math.MaxInt, 1), sp(math.MaxInt, math.MaxInt), sp(0, math.MaxInt), sp(1, math.MaxInt), sp(4095, math.MaxInt), sp(4095, math.MaxInt-4095),
		sp(math.MinInt, 1), sp(math.MinInt, math.MinInt), sp(math.MinInt, math.MaxInt), sp(math.MaxInt, math.MinInt), sp(5, math.MinInt), sp(0, math.MinInt),
		sp(math.MinInt+1, math.MaxInt), sp(-1, math.MaxInt), sp(-1, math.MinInt))
}

// noSets are lists that are no sets, each way.
func noSets() [][]api.Span {
	l := [][]api.Span{
		{sp(5, 2), sp(7, 1)}, {sp(0, 1), sp(1, 1)}, {sp(4094, 1), sp(4095, 1)}, // touch
		{sp(5, 3), sp(7, 2)}, {sp(5, 5), sp(6, 1)}, {sp(0, 4096), sp(4095, 1)}, // meet
		{sp(5, 1), sp(5, 1)}, {sp(5, 1), sp(5, 2)}, {sp(0, 4096), sp(0, 4096)}, // the same begin
		{sp(9, 1), sp(5, 1)}, {sp(9, 1), sp(8, 1)}, {sp(1, 1), sp(5, 1), sp(3, 1)}, // fall
		{sp(1, 1), sp(3, 1), sp(5, 1), sp(6, 1)}, {sp(1, 1), sp(9, 1), sp(9, 1)}, // behind some that are right
	}
	for _, s := range wrongSpans() {
		l = append(l, spans(s), spans(sp(2, 1), s), spans(sp(0, 1), sp(2, 1), s), spans(s, sp(4095, 1)), spans(s, s))
	}
	return l
}

// sets are some that overlap and touch each other in many ways, nothing and all among them.
func sets() [][]api.Span {
	return [][]api.Span{
		nil, {}, spans(sp(0, 4096)), spans(sp(0, 1)), spans(sp(4095, 1)), spans(sp(0, 4095)), spans(sp(1, 4095)), spans(sp(1, 4094)),
		spans(sp(1, 3)), spans(sp(3, 3)), spans(sp(10, 5)), spans(sp(10, 1), sp(12, 1), sp(14, 3)), spans(sp(11, 1), sp(13, 1)), spans(sp(8, 2), sp(15, 2)),
		spans(sp(9, 7)), spans(sp(10, 2), sp(13, 2)), spans(sp(0, 1), sp(4095, 1)), spans(sp(0, 2), sp(100, 100), sp(4094, 2)), spans(sp(50, 100), sp(160, 100)),
		every(2, 0), every(2, 1), every(3, 2), spans(sp(0, 2048)), spans(sp(2048, 2048)), spans(sp(2047, 2)),
	}
}

// every is the set of each so manieth number from the first on.
func every(step, first int) []api.Span {
	var l []api.Span
	for n := first; n < 4096; n += step {
		l = append(l, sp(n, 1))
	}
	return l
}

// plain is a set, number by number: what the package answers is held against it.
type plain [4096]bool

// of is a set number by number; false, if the list is none.
func of(l []api.Span) (*plain, bool) {
	p := new(plain)
	for i, s := range l {
		if s.Len < 1 || s.Start < 0 || s.Start > 4095 || s.Len > 4096 || s.Start+s.Len > 4096 {
			return nil, false
		}
		if i > 0 && s.Start <= l[i-1].Start+l[i-1].Len {
			return nil, false
		}
		for n := range s.Len {
			p[s.Start+n] = true
		}
	}
	return p, true
}

// spans is the set: each longest run of numbers a span.
func (p *plain) spans() []api.Span {
	var l []api.Span
	for n := 0; n < 4096; n++ {
		start := n
		for n < 4096 && p[n] {
			n++
		}
		if n > start {
			l = append(l, sp(start, n-start))
		}
	}
	return l
}

// replayed is what the chapter says that Replay answers.
func replayed(set []api.Span, moves []api.Move) ([]api.Span, api.Errno) {
	p, ok := of(set)
	if !ok {
		return nil, 81
	}
	for _, m := range moves {
		at, ok := of(spans(m.At))
		if !ok {
			return nil, 81
		}
		for n := range p {
			if at[n] && m.Take && p[n] || at[n] && !m.Take && !p[n] {
				return nil, 81
			}
			if at[n] {
				p[n] = m.Take
			}
		}
	}
	return p.spans(), 0
}

// alone is the set of what is in a and not in b.
func alone(a, b *plain) []api.Span {
	var p plain
	for n := range p {
		p[n] = a[n] && !b[n]
	}
	return p.spans()
}

// differing is what the chapter says that Diff answers.
func differing(a, b []api.Span) []api.Move {
	p, ok := of(a)
	q, right := of(b)
	if !ok || !right {
		return nil
	}
	var l []api.Move
	for _, s := range alone(p, q) {
		l = append(l, api.Move{Take: false, At: s})
	}
	for _, s := range alone(q, p) {
		l = append(l, api.Move{Take: true, At: s})
	}
	return l
}

// laid is a move's five bytes, whether it can be or not.
func laid(kind, start, many int) []byte {
	return []byte{byte(kind), byte(start), byte(start >> 8), byte(many), byte(many >> 8)}
}

// replays: does Replay answer what the chapter says?
func replays(t *testing.T, set []api.Span, moves []api.Move) {
	t.Helper()
	l, e := Replay(set, moves)
	if want, wrong := replayed(set, moves); e != wrong || !slices.Equal(l, want) {
		t.Errorf("Replay of %v, %v: %v %v, not %v %v", set, moves, l, e, want, wrong)
	}
}

// leads: does Replay lead from one set to another?
func leads(t *testing.T, set []api.Span, moves []api.Move, want ...api.Span) {
	t.Helper()
	if l, e := Replay(set, moves); e != 0 || !slices.Equal(l, want) {
		t.Errorf("Replay of %v, %v: %v %v, not %v", set, moves, l, e, want)
	}
}

// stops: does Replay refuse this, and tell nothing?
func stops(t *testing.T, set []api.Span, moves ...api.Move) {
	t.Helper()
	if l, e := Replay(set, moves); e != api.ErrLog || len(l) > 0 {
		t.Errorf("Replay of %v, %v: %v %v", set, moves, l, e)
	}
}

// differs: does Diff answer just these?
func differs(t *testing.T, a, b []api.Span, want ...api.Move) {
	t.Helper()
	if l := Diff(a, b); !slices.Equal(l, want) {
		t.Errorf("Diff of %v and %v: %v, not %v", a, b, l, want)
	}
}

// told: are these the bytes of the moves, and the moves those of the bytes?
func told(t *testing.T, l []api.Move, want []byte) {
	t.Helper()
	if b, e := Bytes(l); e != 0 || !bytes.Equal(b, want) {
		t.Errorf("Bytes of %v: %v %v, not %v", l, b, e, want)
	}
	if x, e := Read(want); e != 0 || !slices.Equal(x, l) {
		t.Errorf("Read of %v: %v %v, not %v", want, x, e, l)
	}
}

// untold: does Bytes refuse these?
func untold(t *testing.T, why string, l []api.Move) {
	t.Helper()
	if b, e := Bytes(l); e != api.ErrLog || len(b) > 0 {
		t.Errorf("Bytes of %v: %v %v", why, b, e)
	}
}

// unread: does Read refuse these?
func unread(t *testing.T, why string, b []byte) {
	t.Helper()
	if l, e := Read(b); e != api.ErrLog || len(l) > 0 {
		t.Errorf("Read of %v: %v %v", why, l, e)
	}
}

// The section Examples.
func TestExamples(t *testing.T) {
	differs(t, spans(sp(1, 3)), spans(sp(3, 3)), free(1, 2), take(4, 2))
}

// The section Errors: its number.
func TestErrors(t *testing.T) {
	if _, e := Replay(spans(sp(0, 0)), nil); e != 81 {
		t.Errorf("Replay of no set: %v", e)
	}
	if _, e := Replay(nil, moves(free(5, 1))); e != 81 {
		t.Errorf("Replay of a move that can't be: %v", e)
	}
	if _, e := Bytes(moves(take(0, 0))); e != 81 {
		t.Errorf("Bytes of a move that can't be: %v", e)
	}
	if _, e := Read([]byte{1}); e != 81 {
		t.Errorf("Read of bytes of none: %v", e)
	}
}

// P8.1: without moves a set is as it was.
func TestReplayOfNoMoves(t *testing.T) {
	for _, set := range sets() {
		leads(t, set, nil, set...)
		leads(t, set, moves(), set...)
	}
}

// P8.1: what became taken is put in, what became free is cut, wherever it touches what is there.
func TestReplay(t *testing.T) {
	set := spans(sp(10, 5), sp(20, 5))
	leads(t, set, moves(take(0, 1)), sp(0, 1), sp(10, 5), sp(20, 5))
	leads(t, set, moves(take(8, 2)), sp(8, 7), sp(20, 5))
	leads(t, set, moves(take(7, 2)), sp(7, 2), sp(10, 5), sp(20, 5))
	leads(t, set, moves(take(15, 1)), sp(10, 6), sp(20, 5))
	leads(t, set, moves(take(19, 1)), sp(10, 5), sp(19, 6))
	leads(t, set, moves(take(15, 5)), sp(10, 15))
	leads(t, set, moves(take(16, 3)), sp(10, 5), sp(16, 3), sp(20, 5))
	leads(t, set, moves(take(25, 4071)), sp(10, 5), sp(20, 4076))
	leads(t, set, moves(take(4095, 1)), sp(10, 5), sp(20, 5), sp(4095, 1))
	leads(t, set, moves(free(10, 5)), sp(20, 5))
	leads(t, set, moves(free(20, 5)), sp(10, 5))
	leads(t, set, moves(free(10, 1)), sp(11, 4), sp(20, 5))
	leads(t, set, moves(free(14, 1)), sp(10, 4), sp(20, 5))
	leads(t, set, moves(free(12, 1)), sp(10, 2), sp(13, 2), sp(20, 5))
	leads(t, set, moves(free(21, 3)), sp(10, 5), sp(20, 1), sp(24, 1))
	leads(t, set, moves(free(10, 5), free(20, 5)))
	leads(t, nil, moves(take(0, 4096)), sp(0, 4096))
	leads(t, spans(sp(0, 4096)), moves(free(0, 4096)))
	leads(t, spans(sp(0, 4096)), moves(free(1, 4094)), sp(0, 1), sp(4095, 1))
	leads(t, spans(sp(10, 5)), moves(take(15, 2), free(11, 3), take(12, 1)), sp(10, 1), sp(12, 1), sp(14, 3))
}

// P8.1: a number that became taken wasn't in the set, and one that became free was, wherever among the move's numbers it stands.
func TestReplayOfWhatWasSoAhead(t *testing.T) {
	set := spans(sp(10, 5), sp(20, 5))
	for _, m := range moves(take(10, 1), take(12, 1), take(14, 1), take(10, 5), take(9, 2), take(14, 2), take(9, 7), take(15, 6), take(14, 6), take(14, 7),
		take(0, 4096), take(24, 1), take(24, 4072), take(0, 11), take(5, 30)) {
		stops(t, set, m)
	}
	for _, m := range moves(free(0, 1), free(9, 1), free(15, 1), free(15, 5), free(16, 2), free(25, 1), free(4095, 1), free(9, 2), free(9, 6), free(14, 2),
		free(10, 6), free(10, 15), free(14, 7), free(20, 6), free(19, 2), free(0, 4096), free(12, 10)) {
		stops(t, set, m)
	}
	for _, s := range rightSpans() {
		stops(t, nil, api.Move{Take: false, At: s})
		stops(t, spans(sp(0, 4096)), api.Move{Take: true, At: s})
	}
}

// P8.1: the moves are done one behind the other, so the same number may come and go.
func TestReplayOneBehindTheOther(t *testing.T) {
	leads(t, nil, moves(take(5, 1), free(5, 1)))
	leads(t, nil, moves(take(5, 1), free(5, 1), take(5, 1)), sp(5, 1))
	leads(t, spans(sp(5, 1)), moves(free(5, 1), take(5, 1)), sp(5, 1))
	leads(t, nil, moves(take(0, 4096), free(7, 3), take(8, 1), free(0, 7)), sp(8, 1), sp(10, 4086))
	leads(t, nil, moves(take(5, 1), take(7, 1), take(6, 1), free(5, 3)))
	leads(t, nil, moves(take(5, 3), free(6, 1), free(5, 1), free(7, 1)))
	stops(t, nil, take(5, 1), take(5, 1))
	stops(t, nil, take(5, 3), take(7, 1))
	stops(t, nil, take(5, 1), free(5, 1), free(5, 1))
	stops(t, nil, free(5, 1), take(5, 1))
	stops(t, spans(sp(5, 1)), take(5, 1), free(5, 1))
	stops(t, spans(sp(5, 1)), free(5, 1), free(5, 1))
	stops(t, spans(sp(5, 1)), free(5, 1), take(5, 1), take(5, 1))
	stops(t, spans(sp(5, 1)), take(9, 1), free(8, 2))
}

// P8.1: no list but a set is gone on from, with whatever moves or without any.
func TestReplayOfNoSet(t *testing.T) {
	for _, l := range noSets() {
		stops(t, l)
		stops(t, l, take(4000, 1))
		stops(t, l, free(5, 1))
		stops(t, l, take(4096, 1))
	}
}

// P8.1: each move is asked whether it is right, also behind moves that are.
func TestReplayOfWrongMoves(t *testing.T) {
	for _, s := range wrongSpans() {
		for _, set := range [][]api.Span{nil, spans(sp(0, 4096)), spans(sp(10, 5))} {
			stops(t, set, api.Move{Take: true, At: s})
			stops(t, set, api.Move{Take: false, At: s})
		}
		stops(t, spans(sp(10, 5)), take(5, 1), free(12, 1), api.Move{Take: true, At: s})
		stops(t, spans(sp(10, 5)), take(5, 1), free(12, 1), api.Move{Take: false, At: s})
		stops(t, spans(sp(10, 5)), api.Move{Take: true, At: s}, take(5, 1))
		stops(t, spans(sp(10, 5)), api.Move{Take: false, At: s}, take(5, 1))
	}
	stops(t, nil, api.Move{})
}

// P8.1: all moves about a few spans, and at the ends of the numbers.
func TestReplayOfAllMovesAbout(t *testing.T) {
	for _, at := range []int{0, 100, 4082} {
		set := spans(sp(at, 2), sp(at+4, 1), sp(at+8, 4))
		for start := at - 2; start < at+16; start++ {
			for many := -1; many < 16; many++ {
				replays(t, set, moves(take(start, many)))
				replays(t, set, moves(free(start, many)))
			}
		}
	}
}

// P8.1: a log may be longer than one that can be told as bytes.
func TestReplayOfLongLogs(t *testing.T) {
	var long []api.Move
	for i := range 20001 {
		long = append(long, api.Move{Take: i%2 == 0, At: sp(0, 7)})
	}
	leads(t, nil, long[:4096])
	leads(t, nil, long[:4097], sp(0, 7))
	leads(t, nil, long[:20000])
	leads(t, nil, long, sp(0, 7))
	stops(t, nil, append(long, take(6, 1))...)
	var all []api.Move
	for n := range 4096 {
		all = append(all, take(n*5%4096, 1))
	}
	leads(t, nil, all, sp(0, 4096))
	stops(t, nil, append(all, take(5, 1))...)
}

// P8.2: the spans of what is in a alone become free, then those of b alone taken, each rising.
func TestDiff(t *testing.T) {
	differs(t, nil, nil)
	differs(t, nil, spans(sp(7, 3)), take(7, 3))
	differs(t, spans(sp(7, 3)), nil, free(7, 3))
	differs(t, spans(sp(7, 3)), spans(sp(7, 3)))
	differs(t, spans(sp(7, 3)), spans(sp(10, 3)), free(7, 3), take(10, 3))
	differs(t, spans(sp(10, 3)), spans(sp(7, 3)), free(10, 3), take(7, 3))
	differs(t, spans(sp(7, 9)), spans(sp(9, 2)), free(7, 2), free(11, 5))
	differs(t, spans(sp(9, 2)), spans(sp(7, 9)), take(7, 2), take(11, 5))
	differs(t, spans(sp(1, 1), sp(5, 4), sp(20, 1)), spans(sp(3, 1), sp(6, 4), sp(15, 10)), free(1, 1), free(5, 1), take(3, 1), take(9, 1), take(15, 5), take(21, 4))
	differs(t, spans(sp(0, 4096)), spans(sp(0, 1), sp(4095, 1)), free(1, 4094))
	differs(t, spans(sp(0, 1), sp(4095, 1)), spans(sp(0, 4096)), take(1, 4094))
}

// P8.2: of sets, what Diff tells is as the chapter says, leads from the one to the other, and can be told as bytes.
func TestDiffLeads(t *testing.T) {
	for _, a := range sets() {
		for _, b := range sets() {
			differs(t, a, b, differing(a, b)...)
			leads(t, a, Diff(a, b), b...)
			if _, e := Bytes(Diff(a, b)); e != 0 {
				t.Errorf("Bytes of the Diff of %v and %v: %v", a, b, e)
			}
		}
		differs(t, a, a)
	}
}

// P8.2: no Diff is longer than the one of sets that are turned about, which can just be told as bytes.
func TestDiffOfManySpans(t *testing.T) {
	l := Diff(every(2, 0), every(2, 1))
	if len(l) != 4096 {
		t.Fatalf("%v moves", len(l))
	}
	for i, m := range l[:2048] {
		if m != free(2*i, 1) || l[2048+i] != take(2*i+1, 1) {
			t.Errorf("%v: %v, %v", i, m, l[2048+i])
		}
	}
	if b, e := Bytes(l); e != 0 || len(b) != 20480 {
		t.Errorf("Bytes: %v of them, %v", len(b), e)
	}
}

// P8.2: all sets of six numbers, at both ends.
func TestDiffOfAllSmallSets(t *testing.T) {
	for _, at := range []int{0, 4090} {
		var small [][]api.Span
		for bits := range 64 {
			var nums []int
			for i := range 6 {
				if bits>>i&1 == 1 {
					nums = append(nums, at+i)
				}
			}
			small = append(small, span.Of(nums...))
		}
		for _, a := range small {
			for _, b := range small {
				differs(t, a, b, differing(a, b)...)
			}
		}
	}
}

// P8.2: of a list that is no set there are no moves, on either side.
func TestDiffOfNoSets(t *testing.T) {
	for _, l := range noSets() {
		for _, set := range [][]api.Span{nil, spans(sp(5, 1)), spans(sp(0, 4096)), l} {
			differs(t, l, set)
			differs(t, set, l)
		}
		if x := Condense(l); len(x) > 0 {
			t.Errorf("Condense of %v: %v", l, x)
		}
	}
}

// P8.2: Condense takes the set's spans, and leads from nothing to it.
func TestCondense(t *testing.T) {
	for _, set := range sets() {
		l := Condense(set)
		if len(l) != len(set) {
			t.Errorf("Condense of %v: %v", set, l)
			continue
		}
		for i, s := range set {
			if l[i] != (api.Move{Take: true, At: s}) {
				t.Errorf("Condense of %v: %v", set, l)
			}
		}
		leads(t, nil, l, set...)
	}
}

// P8.3: five bytes a move, in their order: whether it takes, Start, Len.
func TestBytesAndRead(t *testing.T) {
	told(t, nil, nil)
	told(t, moves(), []byte{})
	told(t, moves(take(0x203, 4), free(1, 0x102)), []byte("\x01\x03\x02\x04\x00\x00\x01\x00\x02\x01"))
	told(t, moves(free(0, 1)), []byte{0, 0, 0, 1, 0})
	told(t, moves(take(0, 4096)), []byte{1, 0, 0, 0, 16})
	told(t, moves(take(4095, 1)), []byte{1, 255, 15, 1, 0})
	told(t, moves(free(255, 256)), []byte{0, 255, 0, 0, 1})
	for _, s := range rightSpans() {
		told(t, moves(api.Move{Take: true, At: s}), laid(1, s.Start, s.Len))
		told(t, moves(api.Move{Take: false, At: s}), laid(0, s.Start, s.Len))
		told(t, moves(take(9, 2), api.Move{Take: false, At: s}, take(4, 3)), slices.Concat(laid(1, 9, 2), laid(0, s.Start, s.Len), laid(1, 4, 3)))
	}
}

// P8.3: each move is told as it is, whatever the moves ahead of it did.
func TestBytesOfMovesThatDoNotLead(t *testing.T) {
	told(t, moves(free(5, 1), free(5, 1)), []byte{0, 5, 0, 1, 0, 0, 5, 0, 1, 0})
	told(t, moves(take(5, 2), take(6, 2), take(5, 2)), []byte{1, 5, 0, 2, 0, 1, 6, 0, 2, 0, 1, 5, 0, 2, 0})
	told(t, moves(take(9, 1), free(8, 1), take(8, 1)), []byte{1, 9, 0, 1, 0, 0, 8, 0, 1, 0, 1, 8, 0, 1, 0})
}

// P8.3: there are bytes of all moves that can be, and of no others.
func TestBytesOfAllStarts(t *testing.T) {
	for start := range 4096 {
		room := 4096 - start
		told(t, moves(take(start, 1), free(start, room)), slices.Concat(laid(1, start, 1), laid(0, start, room)))
		untold(t, "one too long", moves(take(start, room+1)))
		unread(t, "one too long", laid(1, start, room+1))
		untold(t, "one of nothing", moves(free(start, 0)))
		unread(t, "one of nothing", laid(0, start, 0))
	}
	for start := 4096; start < 65536; start += 13 {
		unread(t, "one beyond the end", laid(1, start, 1))
		unread(t, "one that goes round", laid(1, start, 65536-start))
		unread(t, "one that goes round and on", laid(0, start, 65535))
	}
}

// P8.3: a move that isn't right has no bytes, behind and ahead of others, too.
func TestBytesOfWrongMoves(t *testing.T) {
	for _, s := range wrongSpans() {
		for _, is := range []bool{true, false} {
			m := api.Move{Take: is, At: s}
			untold(t, "a wrong move", moves(m))
			untold(t, "a wrong move behind one", moves(take(5, 1), m))
			untold(t, "a wrong move behind some", moves(take(5, 1), free(5, 1), take(0, 4096), m))
			untold(t, "a wrong move ahead of one", moves(m, take(5, 1)))
		}
	}
	untold(t, "a zero move", moves(api.Move{}))
}

// P8.3: up to 4096 moves.
func TestBytesOfManyMoves(t *testing.T) {
	var l []api.Move
	var b []byte
	for i := range 4099 {
		m := api.Move{Take: i%3 == 0, At: sp(i%4096, 1)}
		l = append(l, m)
		b = append(b, laid(int(kind(m)), i%4096, 1)...)
	}
	for _, n := range []int{4094, 4095, 4096} {
		told(t, l[:n], b[:5*n])
	}
	for _, n := range []int{4097, 4098, 4099} {
		untold(t, "too many", l[:n])
		unread(t, "too many", b[:5*n])
	}
	untold(t, "far too many", slices.Repeat(l, 30))
	unread(t, "far too many", slices.Repeat(b[:5], 1<<16))
	unread(t, "far too many and one more", slices.Repeat(b[:5], 1<<16+1))
	wrong := slices.Clone(l[:4096])
	wrong[4095].At.Len = 2
	wrong[4095].At.Start = 4095
	untold(t, "many and a wrong one", wrong)
	wrong[0], wrong[4095] = wrong[4095], l[0]
	untold(t, "a wrong one and many", wrong)
}

// P8.3: bytes that are cut off or too long are no moves.
func TestReadOfOtherLengths(t *testing.T) {
	b, _ := Bytes(moves(take(1, 1), free(1, 1), take(257, 257), free(0, 4096)))
	for n := range len(b) + 1 {
		if n%5 != 0 {
			unread(t, "some bytes", b[:n])
		} else if l, e := Read(b[:n]); e != 0 || len(l) != n/5 {
			t.Errorf("Read of %v: %v %v", b[:n], l, e)
		}
	}
	for _, more := range []byte{0, 1, 5, 255} {
		unread(t, "one more byte", append(slices.Clone(b), more))
		unread(t, "a byte alone", []byte{more})
		unread(t, "four bytes", []byte{more, more, more, more})
	}
	most := slices.Repeat(laid(1, 7, 1), 4096)
	if l, e := Read(most); e != 0 || len(l) != 4096 {
		t.Errorf("Read of %v bytes: %v moves, %v", len(most), len(l), e)
	}
	unread(t, "the most bytes but one", most[1:])
	unread(t, "the most bytes and one", append(most, 1))
}

// P8.3: the first byte is 1 or 0.
func TestReadOfOtherKinds(t *testing.T) {
	for kind := 2; kind < 256; kind++ {
		unread(t, "another kind", laid(kind, 5, 1))
		unread(t, "another kind behind a move", slices.Concat(laid(1, 5, 1), laid(kind, 5, 1)))
		unread(t, "another kind ahead of a move", slices.Concat(laid(kind, 5, 1), laid(1, 5, 1)))
	}
}

// P8.3: bytes of moves that can't be, behind and ahead of others, too.
func TestReadOfWrongMoves(t *testing.T) {
	for _, c := range [][2]int{{0, 0}, {5, 0}, {4095, 0}, {4096, 0}, {65535, 0}, {0, 4097}, {1, 4096}, {4095, 2}, {4096, 1}, {4097, 1}, {4096, 4096}, {65535, 1}, {65535, 2},
		{1, 65535}, {0, 65535}, {65535, 65535}, {61440, 4096}, {32768, 32768}} {
		for kind := range 2 {
			wrong := laid(kind, c[0], c[1])
			unread(t, "a wrong move", wrong)
			unread(t, "a wrong move behind one", slices.Concat(laid(1, 5, 1), wrong))
			unread(t, "a wrong move ahead of one", slices.Concat(wrong, laid(1, 5, 1)))
		}
	}
}

// What is handed in is not changed, spare room included.
func TestNothingIsChanged(t *testing.T) {
	a, b := spans(sp(1, 3), sp(9, 1), sp(77, 7))[:2], spans(sp(3, 3), sp(9, 1), sp(88, 8))[:2]
	l := moves(take(5, 1), free(9, 1), take(66, 6))[:2]
	raw := append(slices.Concat(laid(1, 5, 1), laid(0, 9, 1)), 6, 6, 6)[:10]
	for range 2 {
		Replay(a, l)
		Replay(b, l)
		Diff(a, b)
		Diff(b, a)
		Condense(a)
		Bytes(l)
		Read(raw)
	}
	if !slices.Equal(a[:3], spans(sp(1, 3), sp(9, 1), sp(77, 7))) || !slices.Equal(b[:3], spans(sp(3, 3), sp(9, 1), sp(88, 8))) {
		t.Errorf("the sets are %v, %v", a[:3], b[:3])
	}
	if !slices.Equal(l[:3], moves(take(5, 1), free(9, 1), take(66, 6))) {
		t.Errorf("the moves are %v", l[:3])
	}
	if !bytes.Equal(raw[:13], append(slices.Concat(laid(1, 5, 1), laid(0, 9, 1)), 6, 6, 6)) {
		t.Errorf("the bytes are %v", raw[:13])
	}
}

// What is answered is new memory, spare room too.
func TestMemoryOfItsOwn(t *testing.T) {
	set, l := spans(sp(1, 3), sp(9, 1)), moves(take(5, 1))
	raw := laid(1, 5, 1)
	for range 3 {
		leads(t, set, nil, sp(1, 3), sp(9, 1))
		leads(t, set, l, sp(1, 3), sp(5, 1), sp(9, 1))
		differs(t, nil, set, take(1, 3), take(9, 1))
		told(t, l, raw)
		x, _ := Replay(set, nil)
		spoil(x, sp(-1, -1))
		x, _ = Replay(set, l)
		spoil(x, sp(-1, -1))
		spoil(Diff(set, nil), take(-1, -1))
		spoil(Diff(nil, set), take(-1, -1))
		spoil(Diff(nil, nil), take(-1, -1))
		spoil(Condense(set), take(-1, -1))
		y, _ := Bytes(l)
		spoil(y, 255)
		z, _ := Read(raw)
		spoil(z, free(-1, -1))
	}
	if !slices.Equal(set, spans(sp(1, 3), sp(9, 1))) || !slices.Equal(l, moves(take(5, 1))) || !bytes.Equal(raw, laid(1, 5, 1)) {
		t.Errorf("%v, %v, %v", set, l, raw)
	}
}

// spoil writes over a list, spare room too.
func spoil[T any](l []T, with T) {
	l = l[:cap(l)]
	for i := range l {
		l[i] = with
	}
}

// chance tells numbers that look like chance, and are the same in each run.
type chance uint64

func (c *chance) below(n int) int {
	*c = *c*6364136223846793005 + 1442695040888963407
	return int(uint64(*c) >> 33 % uint64(n))
}

// span is a small one within or about the first numbers or the last ones; few are wrong.
func (c *chance) span() api.Span {
	return sp([]int{0, 0, 4048}[c.below(3)]+c.below(49)-c.below(2)*c.below(2), 1+c.below(4)*c.below(3))
}

// All promises, in long mixed runs: logs that go on as long as they lead somewhere, each state told in three ways.
func TestMixedRuns(t *testing.T) {
	for seed := range 30 {
		c := chance(seed)
		var set, first []api.Span
		var log []api.Move
		for range 150 {
			m := api.Move{Take: c.below(2) == 0, At: c.span()}
			replays(t, set, moves(m))
			next, e := Replay(set, moves(m))
			if e != 0 {
				continue
			}
			differs(t, set, next, m)
			set, log = next, append(log, m)
		}
		replays(t, first, log)
		leads(t, first, log, set...)
		leads(t, first, Diff(first, set), set...)
		leads(t, nil, Condense(set), set...)
		b, e := Bytes(log)
		if e != 0 {
			t.Fatalf("Bytes of %v: %v", log, e)
		}
		told(t, log, b)
		if len(log) < 20 {
			t.Errorf("only %v moves", len(log))
		}
	}
}
