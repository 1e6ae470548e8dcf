// Package agenda is layer 5: see ../../shared/doc/05-agenda.md.
package agenda

import (
	"cmp"
	"container/heap"
	"iter"
	"slices"

	"coxswain/api"
)

// mostRoom is the most dues for which an agenda has room.
const mostRoom = 4096

// Agenda is dues as a heap, and the room for them.
type Agenda struct {
	dues queue
	room int
}

// queue is dues as container/heap keeps them: the first one at the place 0.
type queue []api.Due

func (q queue) Len() int           { return len(q) }
func (q queue) Less(i, j int) bool { return ahead(q[i], q[j]) < 0 }
func (q queue) Swap(i, j int)      { q[i], q[j] = q[j], q[i] }
func (q *queue) Push(x any)        { *q = append(*q, x.(api.Due)) }

// Pop takes the last one, to which heap.Pop has moved the first due.
func (q *queue) Pop() any {
	last := len(*q) - 1
	d := (*q)[last]
	*q = (*q)[:last]
	return d
}

// ahead is below 0 if a stands ahead of b.
func ahead(a, b api.Due) int {
	return cmp.Or(cmp.Compare(a.At, b.At), cmp.Compare(a.Task, b.Task))
}

// New is an agenda without dues.
func New(most int) *Agenda {
	return &Agenda{room: min(max(most, 0), mostRoom)}
}

// Push puts a due there.
func (a *Agenda) Push(d api.Due) api.Errno {
	switch {
	case a == nil:
		return api.ErrArg
	case d.At < 0 || d.Task < 0:
		return api.ErrRange
	case len(a.dues) >= a.room:
		return api.ErrRoom
	}
	heap.Push(&a.dues, d)
	return api.OK
}

// Peek tells the first due.
func (a *Agenda) Peek() (api.Due, bool) {
	if a.Len() == 0 {
		return api.Due{}, false
	}
	return a.dues[0], true
}

// Pop takes the first due.
func (a *Agenda) Pop() (api.Due, bool) {
	d, ok := a.Peek()
	if ok {
		heap.Pop(&a.dues)
	}
	return d, ok
}

// Until takes all dues of times up to t.
func (a *Agenda) Until(t int) []api.Due {
	var l []api.Due
	for d := range a.taken(t) {
		l = append(l, d)
	}
	return l
}

// taken goes through the dues of times up to t, and takes each one that it tells.
func (a *Agenda) taken(t int) iter.Seq[api.Due] {
	return func(yield func(api.Due) bool) {
		for {
			d, ok := a.Peek()
			if !ok || d.At > t {
				return
			}
			a.Pop()
			if !yield(d) {
				return
			}
		}
	}
}

// Len is how many dues there are.
func (a *Agenda) Len() int {
	if a == nil {
		return 0
	}
	return len(a.dues)
}

// List is all dues, in order.
func (a *Agenda) List() []api.Due {
	if a == nil {
		return nil
	}
	l := make([]api.Due, len(a.dues))
	copy(l, a.dues)
	slices.SortFunc(l, ahead)
	return l
}
