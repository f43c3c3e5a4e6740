// Package span is layer 1, sets of sectors' numbers as spans: see shared/doc/01-span.md.
package span

import (
	"iter"
	"slices"

	"aquifer/api"
)

// Right: is it a set?
func Right(l []api.Span) bool {
	lowest := 0 // where the next span may begin
	for _, s := range l {
		if !within(s) || s.Start < lowest {
			return false
		}
		lowest = s.Start + s.Len + 1 // one more: spans that touch would be one span
	}
	return true
}

// Of: the set of some numbers.
func Of(nums ...int) []api.Span {
	var m marks
	for _, n := range nums {
		if n >= 0 && n < api.MaxSector {
			m[n] = true
		}
	}
	return m.spans()
}

// Has: is a number in it?
func Has(l []api.Span, n int) bool {
	for m := range numbers(l) {
		if m >= n {
			return m == n
		}
	}
	return false
}

// Count: how many are in it.
func Count(l []api.Span) int {
	count := 0
	for range numbers(l) {
		count++
	}
	return count
}

// List: what is in it.
func List(l []api.Span) []int {
	return slices.Collect(numbers(l))
}

// Join: what is in either.
func Join(a, b []api.Span) []api.Span {
	var m marks
	m.put(a, true)
	m.put(b, true)
	return m.spans()
}

// Cut: what is in a and not in b.
func Cut(a, b []api.Span) []api.Span {
	var m marks
	m.put(a, true)
	m.put(b, false)
	return m.spans()
}

// Both: what is in both.
func Both(a, b []api.Span) []api.Span {
	return Cut(a, Cut(a, b))
}

// First: the first so many numbers side by side.
func First(l []api.Span, many int) (api.Span, bool) {
	if many < 1 {
		return api.Span{}, false
	}
	for _, s := range l {
		if s.Len >= many {
			return api.Span{Start: s.Start, Len: many}, true
		}
	}
	return api.Span{}, false
}

// within: can all of its numbers be in a set, and has it any? The length is held against what is left of the range, as the sum of Start and Len may go round.
func within(s api.Span) bool {
	return s.Start >= 0 && s.Len >= 1 && s.Len <= api.MaxSector-s.Start
}

// numbers goes through a set's numbers, rising. So that it ends soon for a list that is no set, too, it passes over spans that can't be in one, and over what doesn't rise.
func numbers(l []api.Span) iter.Seq[int] {
	return func(yield func(int) bool) {
		next := 0
		for _, s := range l {
			if !within(s) {
				continue
			}
			for next = max(next, s.Start); next < s.Start+s.Len; next++ {
				if !yield(next) {
					return
				}
			}
		}
	}
}

// marks tells of each number that can be in a set whether it is.
type marks [api.MaxSector]bool

// put marks all numbers of a set as in, or as out.
func (m *marks) put(l []api.Span, in bool) {
	for n := range numbers(l) {
		m[n] = in
	}
}

// spans is the set of what is marked.
func (m *marks) spans() []api.Span {
	var l []api.Span
	for n, in := range m {
		if !in {
			continue
		}
		if n > 0 && m[n-1] {
			l[len(l)-1].Len++
		} else {
			l = append(l, api.Span{Start: n, Len: 1})
		}
	}
	return l
}
