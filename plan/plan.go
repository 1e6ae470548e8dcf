// Package plan is what the book of jobs (28), the kernel (29) and the plan without a machine (30) have in common: how many steps a job has, and what came at which place. See ../../shared/doc/29-kernel.md, P29.5.
package plan

import (
	"maps"
	"slices"
)

// Steps is how many steps the job of number n of the task i has.
func Steps(demand [][]int, i, n int) int {
	if i < 0 || i >= len(demand) || n < 0 || n >= len(demand[i]) {
		return 1
	}
	return max(1, demand[i][n])
}

// InOrder is what came, by the places at which it came.
func InOrder[T any](came map[int]T) []T {
	l := make([]T, 0, len(came))
	for _, at := range slices.Sorted(maps.Keys(came)) {
		l = append(l, came[at])
	}
	return l
}
