package plan_test

import (
	"math"
	"slices"
	"testing"

	"coxswain/api"
	"coxswain/plan"
)

// P29.5: as many as demand says; 1, if that is below 1, or not there.
func TestSteps(t *testing.T) {
	demand := [][]int{{3, 0, -2, math.MinInt, math.MaxInt}, nil, {}, {1}}
	for _, c := range []struct{ i, n, want int }{
		{0, 0, 3}, {0, 1, 1}, {0, 2, 1}, {0, 3, 1}, {0, 4, math.MaxInt}, {0, 5, 1}, {0, -1, 1}, {1, 0, 1}, {2, 0, 1}, {3, 0, 1}, {4, 0, 1}, {-1, 0, 1},
		{math.MaxInt, math.MaxInt, 1}, {math.MinInt, math.MinInt, 1},
	} {
		if got := plan.Steps(demand, c.i, c.n); got != c.want {
			t.Errorf("%d, %d: %d, not %d", c.i, c.n, got, c.want)
		}
	}
	if plan.Steps(nil, 0, 0) != 1 {
		t.Error("no demand")
	}
}

// What came at which place is told in order, and is left as it was.
func TestInOrder(t *testing.T) {
	came := map[int]rune{3: 'c', -1: 'a', 100: 'e', 4: 'd', 0: 'b'}
	for range 20 {
		if l := plan.InOrder(came); string(l) != "abcde" || len(came) != 5 {
			t.Fatal(l)
		}
	}
	if l := plan.InOrder(map[int][]int(nil)); len(l) != 0 {
		t.Error(l)
	}
	if l := plan.InOrder(map[int]string{1: "x", 0: "x"}); !slices.Equal(l, []string{"x", "x"}) {
		t.Error(l)
	}
}

// P26.3: whoever goes ahead comes first: of the higher priority, of one priority the lesser number.
func TestOrder(t *testing.T) {
	for _, c := range []struct{ prios, want []int }{
		{nil, nil}, {[]int{7}, []int{0}}, {[]int{1, 5, 5}, []int{1, 2, 0}}, {[]int{3, 2, 1}, []int{0, 1, 2}}, {[]int{1, 2, 3, 2}, []int{2, 1, 3, 0}},
		{[]int{0, 0, 0, 0}, []int{0, 1, 2, 3}}, {[]int{math.MinInt, math.MaxInt, -1}, []int{1, 2, 0}},
	} {
		var l []api.Task
		for _, prio := range c.prios {
			l = append(l, api.Task{Prio: prio})
		}
		if got := plan.Order(l); !slices.Equal(got, c.want) {
			t.Errorf("%v: %v, not %v", c.prios, got, c.want)
		}
	}
}
