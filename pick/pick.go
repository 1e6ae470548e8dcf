// Package pick is what audit (45) and observe (46) have in common: what came in a run, picked by its kinds. See ../../shared/doc/46-observe.md.
package pick

import (
	"iter"
	"slices"

	"coxswain/api"
)

// Kinds goes through the events of these kinds, in their order.
func Kinds(l []api.Event, kinds ...int) iter.Seq[api.Event] {
	return func(yield func(api.Event) bool) {
		for _, e := range l {
			if slices.Contains(kinds, e.Kind) && !yield(e) {
				return
			}
		}
	}
}
