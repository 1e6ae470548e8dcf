// Package row is what stands at a place of a list, if there is such a place: tasks and objects by their numbers, and what is told by the tasks. See ../../shared/doc/38-rta.md, P38.1.
package row

// At is what stands at a place; the zero value, false, if there is no such place.
func At[T any](l []T, i int) (T, bool) {
	if i < 0 || i >= len(l) {
		var none T
		return none, false
	}
	return l[i], true
}
