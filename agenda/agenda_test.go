package agenda_test

import (
	"math"
	"slices"
	"testing"

	"coxswain/agenda"
	"coxswain/api"
)

type due = api.Due

// stands: the chapter's words.
func stands(a, b due) int {
	switch {
	case a == b:
		return 0
	case a.At < b.At || a.At == b.At && a.Task < b.Task:
		return -1
	}
	return 1
}

// mixed is n dues, out of order, some of them twice.
func mixed(n int) []due {
	var l []due
	for i := range n {
		l = append(l, due{At: i * i * 31 % 17, Task: i * 7 % 5})
	}
	return l
}

// filled is an agenda of these dues.
func filled(t *testing.T, l []due) *agenda.Agenda {
	t.Helper()
	a := agenda.New(len(l))
	for _, d := range l {
		if e := a.Push(d); e != api.OK {
			t.Fatalf("Push of %v: %d", d, e)
		}
	}
	return a
}

// P5.1: a nil agenda has nothing.
func TestNilAgenda(t *testing.T) {
	var a *agenda.Agenda
	if a.Push(due{}) != api.ErrArg || a.Push(due{At: -1, Task: -1}) != api.ErrArg {
		t.Error("Push")
	}
	if d, ok := a.Peek(); d != (due{}) || ok {
		t.Error("Peek")
	}
	if d, ok := a.Pop(); d != (due{}) || ok {
		t.Error("Pop")
	}
	if len(a.Until(math.MaxInt)) != 0 || a.Len() != 0 || len(a.List()) != 0 {
		t.Error("a nil agenda has something")
	}
}

// P5.2: the room, brought between 0 and 4096.
func TestRoom(t *testing.T) {
	for most, room := range map[int]int{math.MinInt: 0, -1: 0, 0: 0, 1: 1, 3: 3, 4095: 4095, 4096: 4096, 4097: 4096, math.MaxInt: 4096} {
		a := agenda.New(most)
		for i := range room {
			if e := a.Push(due{At: room - i}); e != api.OK {
				t.Fatalf("room %d, push %d: %d", most, i, e)
			}
		}
		before := a.List()
		if a.Push(due{At: 1}) != api.ErrRoom || a.Len() != room || !slices.Equal(a.List(), before) {
			t.Errorf("room %d: more than %d, or changed", most, room)
		}
		if a.Push(due{At: -1}) != api.ErrRange {
			t.Error("ErrRange comes ahead of ErrRoom")
		}
		if _, ok := a.Pop(); ok && (a.Push(due{At: 7}) != api.OK || a.Push(due{At: 7}) != api.ErrRoom) {
			t.Error("room of what was popped")
		}
	}
}

// P5.2: times and tasks below 0 change nothing.
func TestPushOutOfRange(t *testing.T) {
	a := filled(t, nil)
	b := agenda.New(3)
	for _, d := range []due{{At: -1}, {Task: -1}, {At: math.MinInt, Task: math.MinInt}, {At: 5, Task: math.MinInt}} {
		if a.Push(d) != api.ErrRange || b.Push(d) != api.ErrRange || b.Len() != 0 {
			t.Errorf("Push of %v", d)
		}
	}
	huge := due{At: math.MaxInt, Task: math.MaxInt}
	if b.Push(huge) != api.OK || b.Push(due{}) != api.OK || b.Push(due{}) != api.OK {
		t.Error("the least and the greatest due")
	}
	if !slices.Equal(b.List(), []due{{}, {}, huge}) {
		t.Errorf("List: %v", b.List())
	}
}

// P5.2: Peek tells the first due, and leaves it; Len and List change nothing.
func TestPeekLenList(t *testing.T) {
	l := mixed(60)
	a := filled(t, l)
	slices.SortFunc(l, stands)
	for range 2 {
		if d, ok := a.Peek(); d != l[0] || !ok {
			t.Errorf("Peek: %v %v", d, ok)
		}
		got := a.List()
		if !slices.Equal(got, l) || a.Len() != len(l) {
			t.Errorf("List: %v", got)
		}
		got[0] = due{At: 99} // an answer is new memory
	}
	e := agenda.New(4)
	if d, ok := e.Peek(); d != (due{}) || ok {
		t.Error("Peek of none")
	}
	if d, ok := e.Pop(); d != (due{}) || ok {
		t.Error("Pop of none")
	}
	if len(e.List()) != 0 || len(e.Until(9)) != 0 || e.Len() != 0 {
		t.Error("an empty agenda has something")
	}
}

// P5.3: what is popped comes in order, and is what was pushed, each as often.
func TestPopInOrder(t *testing.T) {
	for n := range 60 {
		l := mixed(n)
		a := filled(t, l)
		slices.SortFunc(l, stands)
		for i, want := range l {
			if d, ok := a.Pop(); d != want || !ok || a.Len() != n-i-1 {
				t.Fatalf("of %d, pop %d: %v %v, left %d", n, i, d, ok, a.Len())
			}
		}
		if _, ok := a.Pop(); ok {
			t.Errorf("of %d: one more", n)
		}
	}
}

// P5.3: pushes and pops in between one another, held against a list that is sorted anew.
func TestPushAndPopMixed(t *testing.T) {
	a := agenda.New(300)
	var l []due
	for i, d := range mixed(300) {
		if a.Push(d) != api.OK {
			t.Fatal("Push")
		}
		l = append(l, d)
		slices.SortFunc(l, stands)
		if i%3 != 0 {
			if got, ok := a.Pop(); got != l[0] || !ok {
				t.Fatalf("push %d: popped %v, not %v", i, got, l[0])
			}
			l = l[1:]
		}
		if !slices.Equal(a.List(), l) {
			t.Fatalf("push %d: %v, not %v", i, a.List(), l)
		}
	}
}

// P5.2, P5.3: Until is Pop as long as the first one is due.
func TestUntil(t *testing.T) {
	for _, until := range []int{math.MinInt, -1, 0, 1, 5, 8, 16, 17, math.MaxInt} {
		l := mixed(60)
		a, b := filled(t, l), filled(t, l)
		var want []due
		for d, ok := b.Peek(); ok && d.At <= until; d, ok = b.Peek() {
			b.Pop()
			want = append(want, d)
		}
		if got := a.Until(until); !slices.Equal(got, want) {
			t.Errorf("Until %d: %v, not %v", until, got, want)
		}
		if !slices.Equal(a.List(), b.List()) || len(a.Until(until)) != 0 {
			t.Errorf("Until %d: left %v, not %v", until, a.List(), b.List())
		}
	}
}

// The chapter's example.
func TestExample(t *testing.T) {
	a := filled(t, []due{{At: 5, Task: 1}, {At: 3, Task: 2}, {At: 5, Task: 0}})
	if got := a.List(); !slices.Equal(got, []due{{At: 3, Task: 2}, {At: 5, Task: 0}, {At: 5, Task: 1}}) {
		t.Errorf("List: %v", got)
	}
}
