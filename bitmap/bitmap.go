// Package bitmap is layer 3: see ../../shared/doc/03-bitmap.md.
package bitmap

import (
	"cmp"
	"iter"
	"math/bits"
	"slices"
)

// bit is the set of one number; of one that no set can have it is empty, so that it neither adds, drops nor finds anything.
func bit(i int) uint64 {
	if i < 0 || i > 63 {
		return 0
	}
	return 1 << i
}

// Put is a set with one more.
func Put(m uint64, i int) uint64 { return m | bit(i) }

// Drop is a set with one less.
func Drop(m uint64, i int) uint64 { return m &^ bit(i) }

// Has tells whether one is in a set.
func Has(m uint64, i int) bool { return m&bit(i) != 0 }

// First is the least number of a set.
func First(m uint64) (int, bool) {
	if m == 0 {
		return 0, false
	}
	return bits.TrailingZeros64(m), true
}

// Count is how many are in a set.
func Count(m uint64) int { return bits.OnesCount64(m) }

// List is a set's numbers, rising.
func List(m uint64) []int {
	var l []int
	for i := range each(m) {
		l = append(l, i)
	}
	return l
}

// each goes through a set's numbers, rising.
func each(m uint64) iter.Seq[int] {
	return func(yield func(int) bool) {
		left := m
		for {
			i, ok := First(left)
			if !ok || !yield(i) {
				return
			}
			left = Drop(left, i)
		}
	}
}

// Order is who goes first, and who next.
func Order(prio []int) []int {
	l := make([]int, len(prio))
	for i := range l {
		l[i] = i
	}
	slices.SortFunc(l, func(a, b int) int { return ahead(prio, a, b) })
	return l
}

// ahead is below 0 if a goes ahead of b. Priorities are held against each other, not taken away: a difference may go round.
func ahead(prio []int, a, b int) int {
	return cmp.Or(cmp.Compare(prio[b], prio[a]), cmp.Compare(a, b))
}

// Ranks is everybody's place in the order.
func Ranks(prio []int) []int {
	l := make([]int, len(prio))
	for place, i := range Order(prio) {
		l[i] = place
	}
	return l
}

// Pick is who goes first of those that are ready.
func Pick(prio []int, ready uint64) (int, bool) {
	first, found := 0, false
	for i := range each(ready) {
		if i >= len(prio) {
			break
		}
		if !found || ahead(prio, i, first) < 0 {
			first, found = i, true
		}
	}
	return first, found
}
