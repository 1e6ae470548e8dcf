// Package plan is what the book of jobs (28), the kernel (29), the plan without a machine (30) and the reckoning of responses (38) have in common: how many steps a job has, what came at which place, and whose turn it is to be reckoned. See ../../shared/doc/29-kernel.md, P29.5.
package plan

import (
	"maps"
	"slices"

	"coxswain/api"
	"coxswain/task"
)

// Steps is how many steps the job of number n of the task i has.
func Steps(demand [][]int, i, n int) int {
	if i < 0 || i >= len(demand) || n < 0 || n >= len(demand[i]) {
		return 1
	}
	return max(1, demand[i][n])
}

// InOrder is what came, by the places at which it came.
func InOrder[T any](came map[int]T) []T {
	l := make([]T, 0, len(came))
	for _, at := range slices.Sorted(maps.Keys(came)) {
		l = append(l, came[at])
	}
	return l
}

// Order is the tasks, each ahead of the next one.
func Order(l []api.Task) []int {
	tasks := make([]int, len(l))
	for i, rank := range task.Ranks(l) {
		tasks[rank] = i
	}
	return tasks
}
