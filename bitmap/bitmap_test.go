package bitmap_test

import (
	"math"
	"slices"
	"testing"

	"coxswain/bitmap"
)

var outside = []int{-1, -2, -64, 64, 65, 127, 128, 1 << 40, math.MinInt, math.MaxInt}

// sets are sets of all sorts: none, one, neighbours, all but some, all.
func sets() []uint64 {
	l := []uint64{0, math.MaxUint64, 0x5555555555555555, 0xaaaaaaaaaaaaaaaa, 1<<63 | 1, 1<<63 | 1<<62, 5, 0xf0, 1<<32 - 1}
	for i := range 64 {
		l = append(l, 1<<i, ^(uint64(1) << i))
	}
	return l
}

// P3.2: Put, Drop and Has, bit by bit.
func TestPutDropHas(t *testing.T) {
	for _, m := range sets() {
		for i := range 64 {
			put, drop := bitmap.Put(m, i), bitmap.Drop(m, i)
			for k := range 64 {
				was := m>>k&1 == 1
				if bitmap.Has(m, k) != was || bitmap.Has(put, k) != (was || k == i) || bitmap.Has(drop, k) != (was && k != i) {
					t.Fatalf("set %x, %d put and dropped, at %d", m, i, k)
				}
			}
		}
		for _, i := range outside {
			if bitmap.Put(m, i) != m || bitmap.Drop(m, i) != m || bitmap.Has(m, i) {
				t.Errorf("set %x, and %d, that none can have", m, i)
			}
		}
	}
	if bitmap.Put(0, 0) != 1 || bitmap.Put(0, 63) != 1<<63 {
		t.Error("the lowest bit is 0")
	}
}

// P3.2: First, Count and List.
func TestFirstCountList(t *testing.T) {
	for _, m := range sets() {
		var want []int
		for i := range 64 {
			if m>>i&1 == 1 {
				want = append(want, i)
			}
		}
		if got := bitmap.List(m); !slices.Equal(got, want) {
			t.Errorf("List of %x: %v", m, got)
		}
		if got := bitmap.Count(m); got != len(want) {
			t.Errorf("Count of %x: %d", m, got)
		}
		first, ok := bitmap.First(m)
		if ok != (len(want) > 0) || ok && first != want[0] || !ok && first != 0 {
			t.Errorf("First of %x: %d %v", m, first, ok)
		}
	}
}

// goesAhead: the chapter's words.
func goesAhead(prio []int, a, b int) bool {
	return prio[a] > prio[b] || prio[a] == prio[b] && a < b
}

// lists are all lists of up to 4 priorities of 3, and some others.
func lists() [][]int {
	all := [][]int{nil, {math.MinInt, math.MaxInt, 0, -1, math.MinInt, math.MaxInt}, {-5, -5, 3}, {math.MaxInt, math.MinInt}}
	now := [][]int{{}}
	for range 4 {
		var next [][]int
		for _, l := range now {
			for p := range 3 {
				next = append(next, append(slices.Clone(l), p))
			}
		}
		all = append(all, next...)
		now = next
	}
	long := make([]int, 200)
	for i := range long {
		long[i] = i * 37 % 11
	}
	return append(all, long)
}

// P3.3: Order and Ranks, also of more than a set can have.
func TestOrderAndRanks(t *testing.T) {
	for _, prio := range lists() {
		was := slices.Clone(prio)
		order, ranks := bitmap.Order(prio), bitmap.Ranks(prio)
		if len(order) != len(prio) || len(ranks) != len(prio) {
			t.Fatalf("%v: Order %v, Ranks %v", prio, order, ranks)
		}
		for place := 1; place < len(order); place++ {
			if !goesAhead(prio, order[place-1], order[place]) {
				t.Errorf("Order of %v: %v", prio, order)
			}
		}
		for i := range prio {
			ahead := 0
			for k := range prio {
				if goesAhead(prio, k, i) {
					ahead++
				}
			}
			if ranks[i] != ahead {
				t.Errorf("Ranks of %v: %v", prio, ranks)
			}
			// P3.4: back from one another
			if order[ranks[i]] != i || ranks[order[i]] != i {
				t.Errorf("Order and Ranks of %v do not lead back", prio)
			}
		}
		if !slices.Equal(prio, was) {
			t.Error("what was handed in has changed")
		}
	}
}

// P3.3, P3.4: Pick, by the words, and by the ranks.
func TestPick(t *testing.T) {
	ready := append(sets(), 3, 6, 9, 10, 12, 7, 11, 13, 14, 15)
	for _, prio := range lists() {
		ranks := bitmap.Ranks(prio)
		for _, m := range ready {
			want, found := 0, false
			for i := range min(len(prio), 64) {
				if m>>i&1 == 1 && (!found || ranks[i] < ranks[want]) {
					want, found = i, true
				}
			}
			if got, ok := bitmap.Pick(prio, m); got != want || ok != found {
				t.Errorf("Pick of %v, ready %x: %d %v, not %d %v", prio, m, got, ok, want, found)
			}
		}
	}
}

// P3.3: nobody of those that have a priority is ready.
func TestPickNobody(t *testing.T) {
	for _, m := range []uint64{0, 8, 1 << 63, 0xfffffffffffffff8} {
		if i, ok := bitmap.Pick([]int{1, 2, 3}, m); i != 0 || ok {
			t.Errorf("ready %x: %d %v", m, i, ok)
		}
	}
	if i, ok := bitmap.Pick(nil, math.MaxUint64); i != 0 || ok {
		t.Errorf("no priorities: %d %v", i, ok)
	}
}

// The chapter's examples, and P3.1: no two answers share memory.
func TestExamples(t *testing.T) {
	prio := []int{1, 5, 5}
	a, b := bitmap.Order(prio), bitmap.Order(prio)
	a[0] = 77
	if !slices.Equal(b, []int{1, 2, 0}) || !slices.Equal(bitmap.Order(prio), []int{1, 2, 0}) {
		t.Errorf("Order: %v", b)
	}
	if i, ok := bitmap.Pick(prio, 5); i != 2 || !ok {
		t.Errorf("Pick: %d %v", i, ok)
	}
}
