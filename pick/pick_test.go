package pick_test

import (
	"slices"
	"testing"

	"coxswain/api"
	"coxswain/pick"
)

// Events of these kinds alone, in their order; whoever has seen enough is told no more.
func TestKinds(t *testing.T) {
	l := []api.Event{{Kind: api.EvStep, T: 3}, {Kind: api.EvIdle, T: 1}, {Kind: api.EvStep, T: 2}, {Kind: -1}, {}, {Kind: api.EvDone}, {Kind: 99}}
	for _, c := range []struct{ kinds, want []int }{
		{nil, nil}, {[]int{api.EvStep}, []int{0, 2}}, {[]int{api.EvIdle, api.EvStep}, []int{0, 1, 2}}, {[]int{api.EvStep, api.EvStep}, []int{0, 2}},
		{[]int{api.EvMiss}, nil}, {[]int{0}, []int{4}}, {[]int{-1, 99, api.EvDone, api.EvMiss}, []int{3, 5, 6}},
	} {
		var want []api.Event
		for _, at := range c.want {
			want = append(want, l[at])
		}
		if got := slices.Collect(pick.Kinds(l, c.kinds...)); !slices.Equal(got, want) {
			t.Errorf("%v: %v, not %v", c.kinds, got, want)
		}
	}
	for range pick.Kinds(nil, api.EvStep) {
		t.Error("there is none")
	}
	seen := 0
	for range pick.Kinds(l, api.EvStep, api.EvIdle) {
		if seen++; seen == 2 {
			break
		}
	}
	if seen != 2 {
		t.Error(seen)
	}
}
