package row_test

import (
	"math"
	"testing"

	"coxswain/row"
)

// Each place of a list, and those ahead of it and behind it.
func TestAt(t *testing.T) {
	l := []string{"a", "", "c"}
	for i, want := range l {
		if got, ok := row.At(l, i); got != want || !ok {
			t.Errorf("%d: %q, %t", i, got, ok)
		}
	}
	for _, i := range []int{-1, 3, 4, math.MinInt, math.MaxInt} {
		if got, ok := row.At(l, i); got != "" || ok {
			t.Errorf("%d: %q, %t", i, got, ok)
		}
	}
	// What stands behind the end of a list, in the same memory, is not of it.
	if got, ok := row.At(l[:2], 2); got != "" || ok {
		t.Error(got, ok)
	}
	if got, ok := row.At[int](nil, 0); got != 0 || ok {
		t.Error(got, ok)
	}
}
