package layout_test

import (
	"math"
	"math/rand/v2"
	"slices"
	"testing"

	"coxswain/api"
	"coxswain/layout"
	"coxswain/mem"
	"coxswain/object"
)

// owns is tasks that have so many words of their own, and nothing else.
func owns(l ...int) []api.Task {
	tasks := make([]api.Task, len(l))
	for i, n := range l {
		tasks[i].Own = n
	}
	return tasks
}

// kinds is an object of each kind, and how many words it has.
func kinds() ([]api.Object, []int) {
	return []api.Object{
		{Kind: api.Four, Width: 2, Init: []uint32{7, 8}, Readers: []int{1}},
		{Kind: api.Chen, Width: 1, Init: []uint32{9}, Readers: []int{1, 2}},
		{Kind: api.Seq, Width: 3, Cap: 1, Start: 6, Init: []uint32{1, 2, 3}, Readers: []int{1}},
		{Kind: api.Ring, Width: 2, Slots: 3, Cap: 2, Start: 4, Init: []uint32{5, 6}, Readers: []int{1, 2, 3}},
		{Kind: api.Cab, Width: 1, Slots: 4, Cap: 2, Init: []uint32{11}, Readers: []int{1, 2}},
		{Kind: api.Fifo, Width: 2, Slots: 2, Start: 3, Readers: []int{1}},
	}, []int{4 + 4*2, 1 + 2 + 4*1, 1 + 3, 1 + 3*2, 1 + 2 + 4*1, 2 + 2*2}
}

// widest is an object of 133 words.
func widest() api.Object {
	return api.Object{Kind: api.Cab, Width: 8, Slots: 16, Cap: 1, Init: make([]uint32, 8), Readers: []int{1, 2, 3, 4}}
}

// random is a system, all of whose words have room.
func random(r *rand.Rand) api.System {
	var s api.System
	for range r.IntN(9) {
		s.Tasks = append(s.Tasks, api.Task{Own: 1 + r.IntN(64)})
	}
	l, _ := kinds()
	for range r.IntN(9) {
		s.Objects = append(s.Objects, l[r.IntN(len(l))])
	}
	return s
}

// same tells whether two layouts are one.
func same(a, b api.Layout) bool {
	return slices.Equal(a.Own, b.Own) && slices.Equal(a.Objects, b.Objects) && a.Size == b.Size
}

// isError tells whether Of and Lay tell this error, and nothing else.
func isError(s api.System, want api.Errno) bool {
	l, e := layout.Of(s)
	m, k, f := layout.Lay(s)
	return e == want && f == want && m == nil && same(l, api.Layout{}) && same(k, api.Layout{})
}

// P31.2: the example.
func TestExample(t *testing.T) {
	s := api.System{Tasks: owns(3), Objects: []api.Object{{Kind: api.Seq, Width: 2, Cap: 1, Init: []uint32{1, 2}, Readers: []int{0}}}}
	want := api.Layout{Own: []api.Region{{At: 0, Len: 3}}, Objects: []api.Region{{At: 3, Len: 3}}, Size: 6}
	if l, e := layout.Of(s); e != api.OK || !same(l, want) {
		t.Errorf("%v, %d", l, e)
	}
}

// P31.2: tasks, and objects of each kind, one behind the other.
func TestOf(t *testing.T) {
	objects, sizes := kinds()
	s := api.System{Tasks: owns(5, 1, 64), Objects: objects}
	l, e := layout.Of(s)
	want := api.Layout{Own: []api.Region{{At: 0, Len: 5}, {At: 5, Len: 1}, {At: 6, Len: 64}}, Size: 70}
	for _, n := range sizes {
		want.Objects = append(want.Objects, api.Region{At: want.Size, Len: n})
		want.Size += n
	}
	if e != api.OK || !same(l, want) {
		t.Errorf("%v, %d, not %v", l, e, want)
	}
	if l, e := layout.Of(api.System{Objects: objects}); e != api.OK || l.Objects[0].At != 0 || len(l.Own) != 0 || l.Size != want.Size-70 {
		t.Errorf("without tasks: %v, %d", l, e)
	}
	if l, e := layout.Of(api.System{Tasks: s.Tasks}); e != api.OK || len(l.Objects) != 0 || l.Size != 70 {
		t.Errorf("without objects: %v, %d", l, e)
	}
	if l, e := layout.Of(api.System{}); e != api.OK || !same(l, api.Layout{}) {
		t.Errorf("of nothing: %v, %d", l, e)
	}
}

// P31.2: how many words of its own a task may have.
func TestWrongOwn(t *testing.T) {
	objects, _ := kinds()
	for _, n := range []int{0, -1, 65, math.MinInt, math.MaxInt} {
		for at := range 3 {
			tasks := owns(1, 64, 7)
			tasks[at].Own = n
			if !isError(api.System{Tasks: tasks}, api.ErrArg) || !isError(api.System{Tasks: tasks, Objects: objects}, api.ErrArg) {
				t.Errorf("Own %d of task %d", n, at)
			}
		}
	}
}

// P31.2: an object that is not Shaped, and what is not asked of one, and of a task.
func TestWrongObject(t *testing.T) {
	for at := range 6 {
		for _, change := range []func(o *api.Object){
			func(o *api.Object) { o.Kind = 0 }, func(o *api.Object) { o.Kind = 7 }, func(o *api.Object) { o.Width = 0 },
			func(o *api.Object) { o.Readers = nil }, func(o *api.Object) { o.Slots = 99 }, func(o *api.Object) { o.Init = make([]uint32, 9) },
		} {
			objects, _ := kinds()
			change(&objects[at])
			if !isError(api.System{Objects: objects}, api.ErrArg) || !isError(api.System{Tasks: owns(1), Objects: objects}, api.ErrArg) {
				t.Errorf("%v", objects[at])
			}
		}
	}
	objects, _ := kinds()
	objects[2].Writer, objects[3].Readers = -9, []int{1, 1, -1}
	tasks := []api.Task{{Kind: 9, Prio: -1, Period: -1, Offset: -1, Deadline: -1, Own: 1}}
	if _, e := layout.Of(api.System{Tasks: tasks, Objects: objects}); e != api.OK {
		t.Error("more is asked than there is to ask")
	}
}

// P31.2: how many words there may be in all, and which error comes first.
func TestRoom(t *testing.T) {
	full := make([]int, 64)
	for i := range full {
		full[i] = 64
	}
	if l, e := layout.Of(api.System{Tasks: owns(full...)}); e != api.OK || l.Size != api.MaxWords || l.Own[63] != (api.Region{At: 63 * 64, Len: 64}) {
		t.Errorf("64 times 64: %v, %d", l.Size, e)
	}
	if !isError(api.System{Tasks: owns(append(full, 1)...)}, api.ErrRoom) {
		t.Error("64 times 64, and 1")
	}
	objects, sizes := kinds()
	seq, words := objects[2:3], sizes[2]
	full[63] = 64 - words
	if m, l, e := layout.Lay(api.System{Tasks: owns(full...), Objects: seq}); e != api.OK || l.Size != api.MaxWords || m.Len() != api.MaxWords {
		t.Errorf("just as many: %v, %d", l.Size, e)
	}
	full[63]++
	if !isError(api.System{Tasks: owns(full...), Objects: seq}, api.ErrRoom) {
		t.Error("one more")
	}
	many := slices.Repeat([]api.Object{widest()}, 4096/133)
	if l, e := layout.Of(api.System{Objects: many}); e != api.OK || l.Size != 133*(4096/133) {
		t.Errorf("many objects: %d, %d", l.Size, e)
	}
	many = append(many, widest())
	if !isError(api.System{Objects: many}, api.ErrRoom) {
		t.Error("too many objects")
	}
	if !isError(api.System{Objects: append(many, api.Object{})}, api.ErrArg) || !isError(api.System{Tasks: append(owns(full...), owns(64, 64, 0)...)}, api.ErrArg) {
		t.Error("what may not be comes ahead of the room")
	}
	if !isError(api.System{Tasks: slices.Repeat(owns(64), 1<<16)}, api.ErrRoom) {
		t.Error("very many tasks")
	}
}

// P31.3: the words of a memory that is laid.
func TestLay(t *testing.T) {
	r := rand.New(rand.NewPCG(31, 3))
	for range 300 {
		s := random(r)
		m, l, e := layout.Lay(s)
		of, _ := layout.Of(s)
		if e != api.OK || !same(l, of) || m.Len() != l.Size || m.Steps() != 0 {
			t.Fatalf("%v: %v, %d", s, l, e)
		}
		var want []uint32
		for _, x := range s.Tasks {
			want = append(want, make([]uint32, x.Own)...)
		}
		for _, o := range s.Objects {
			want = append(want, object.Lay(o)...)
		}
		if words, e := m.Look(api.Region{Len: l.Size}); e != api.OK || !slices.Equal(words, want) {
			t.Fatalf("%v: %v, not %v", s, words, want)
		}
	}
	m, _, e := layout.Lay(api.System{})
	if e != api.OK || m == nil || m.Len() != 0 {
		t.Error("of nothing there is a memory of no words")
	}
}

// P31.3: one object's words, written out.
func TestLayWords(t *testing.T) {
	s := api.System{Tasks: owns(2), Objects: []api.Object{
		{Kind: api.Seq, Width: 2, Cap: 1, Start: 4, Init: []uint32{8, 9}, Readers: []int{0}},
		{Kind: api.Fifo, Width: 1, Slots: 2, Start: 3, Readers: []int{0}},
	}}
	m, _, _ := layout.Lay(s)
	if words, _ := m.Look(api.Region{Len: 9}); !slices.Equal(words, []uint32{0, 0, 4, 8, 9, 3, 3, 0, 0}) {
		t.Errorf("%v", words)
	}
}

// P31.3, P31.4: regions lie apart, and each word has just one owner.
func TestOneOwner(t *testing.T) {
	r := rand.New(rand.NewPCG(31, 4))
	for range 300 {
		s := random(r)
		l, _ := layout.Of(s)
		all := slices.Concat(l.Own, l.Objects)
		words := 0
		for i, a := range all {
			words += a.Len
			for _, b := range all[:i] {
				if !mem.Apart(a, b) {
					t.Fatalf("%v: %v and %v", l, a, b)
				}
			}
		}
		if words != l.Size || len(l.Own) != len(s.Tasks) || len(l.Objects) != len(s.Objects) {
			t.Fatalf("%v has %d words", l, words)
		}
		for at := range l.Size {
			owner := slices.IndexFunc(all, func(a api.Region) bool { return a.At <= at && at < a.At+a.Len })
			i, k := owner, -1
			if owner >= len(l.Own) {
				i, k = -1, owner-len(l.Own)
			}
			if task, o := layout.Owner(l, at); task != i || o != k {
				t.Fatalf("%v: %d: %d, %d, not %d, %d", l, at, task, o, i, k)
			}
		}
		for _, at := range []int{-1, l.Size, l.Size + 1, math.MinInt, math.MaxInt} {
			if task, o := layout.Owner(l, at); task != -1 || o != -1 {
				t.Fatalf("%v: %d: %d, %d", l, at, task, o)
			}
		}
	}
}

// P31.3: Owner of layouts that Of does not tell.
func TestOwnerOfAnyLayout(t *testing.T) {
	l := api.Layout{
		Own:     []api.Region{{At: 4, Len: 0}, {At: -3, Len: 9}, {At: 5, Len: -2}, {At: 4, Len: 3}, {At: 5, Len: 5}, {At: math.MaxInt - 1, Len: 9}},
		Objects: []api.Region{{At: math.MinInt, Len: math.MaxInt}, {At: 0, Len: 0}, {At: 8, Len: 4}, {At: 9, Len: 9}, {At: math.MaxInt, Len: math.MinInt}, {At: 1, Len: 1}},
		Size:    3,
	}
	for _, c := range []struct{ at, task, object int }{
		{0, -1, -1}, {1, -1, 5}, {2, -1, -1}, {3, -1, -1}, {4, 3, -1}, {5, 3, -1}, {6, 3, -1}, {7, 4, -1}, {9, 4, -1}, {10, -1, 2}, {11, -1, 2},
		{12, -1, 3}, {17, -1, 3}, {18, -1, -1}, {-1, -1, -1}, {-3, -1, -1}, {math.MinInt, -1, -1}, {math.MaxInt - 2, -1, -1}, {math.MaxInt - 1, 5, -1}, {math.MaxInt, 5, -1},
	} {
		if task, o := layout.Owner(l, c.at); task != c.task || o != c.object {
			t.Errorf("%d: %d, %d, not %d, %d", c.at, task, o, c.task, c.object)
		}
	}
	if task, o := layout.Owner(api.Layout{Size: 5}, 0); task != -1 || o != -1 {
		t.Error("a layout without regions")
	}
}

// P31.1: what is handed in is not changed, and what is told is new memory.
func TestPure(t *testing.T) {
	objects, _ := kinds()
	s := api.System{Tasks: owns(2, 3), Objects: objects}
	first, _ := layout.Of(s)
	m, l, _ := layout.Lay(s)
	n, _, _ := layout.Lay(s)
	m.Fill(0, []uint32{77, 78, 79, 80, 81, 82, 83})
	if w, _ := n.Look(api.Region{Len: 6}); !slices.Equal(w, make([]uint32, 6)) {
		t.Error("two memories are one")
	}
	_ = append(l.Own, api.Region{At: 99, Len: 99})
	if !same(l, first) {
		t.Error("both lists of a layout have one memory")
	}
	l.Own[0], l.Objects[0] = api.Region{}, api.Region{}
	if again, _ := layout.Of(s); !same(again, first) {
		t.Error("two answers have one memory")
	}
	want, _ := kinds()
	for i := range want {
		if !slices.Equal(s.Objects[i].Init, want[i].Init) || !slices.Equal(s.Objects[i].Readers, want[i].Readers) {
			t.Error("changed")
		}
	}
}
