package system_test

import (
	"math"
	"math/rand/v2"
	"slices"
	"testing"

	"coxswain/api"
	"coxswain/isa"
	"coxswain/layout"
	"coxswain/object"
	"coxswain/system"
	"coxswain/task"
)

// instr, and code, are an instruction, and a program that ends with done.
type instr = api.Instr

func code(l ...instr) []instr { return append(l, instr{Op: api.Done}) }

// whole is a system of three tasks and an object of each kind: task 0 writes all, 1 and 2 read, and each of them makes the calls that it may make.
func whole() api.System {
	objects := []api.Object{
		{Kind: api.Four, Width: 2, Init: []uint32{7, 8}, Readers: []int{1}},
		{Kind: api.Chen, Width: 1, Init: []uint32{9}, Readers: []int{2, 1}},
		{Kind: api.Seq, Width: 3, Cap: 1, Start: 6, Init: []uint32{1, 2, 3}, Readers: []int{1}},
		{Kind: api.Ring, Width: 2, Slots: 3, Cap: 2, Start: 4, Init: []uint32{5, 6}, Readers: []int{1, 2}},
		{Kind: api.Cab, Width: 1, Slots: 4, Cap: 2, Init: []uint32{11}, Readers: []int{1, 2}},
		{Kind: api.Fifo, Width: 2, Slots: 2, Start: 3, Readers: []int{2}},
	}
	var calls [3][]instr
	for k, o := range objects {
		write, read := api.Write, api.Read
		if o.Kind == api.Fifo {
			write, read = api.Put, api.Take
		}
		calls[0] = append(calls[0], instr{Op: write, A: k, B: k, N: uint32(10 - o.Width)})
		for _, i := range o.Readers {
			calls[i] = append(calls[i], instr{Op: read, A: 7, B: k, N: uint32(k)})
		}
	}
	return api.System{
		Tasks: []api.Task{
			{Kind: api.Periodic, Prio: 3, Period: 90, Offset: 5, Deadline: 80, Own: 10, Code: code(calls[0]...)},
			{Kind: api.Sporadic, Prio: 9, Period: 70, Deadline: 70, Own: 10, Code: code(calls[1]...)},
			{Kind: api.Periodic, Prio: 1, Period: 50, Deadline: 50, Own: 10, Code: code(calls[2]...)},
		},
		Objects: objects,
	}
}

// at is a spot.
func at(task, object, place int) api.Spot { return api.Spot{Task: task, Object: object, At: place} }

// isRight tells whether Check says OK.
func isRight(s api.System) bool {
	spot, e := system.Check(s)
	return e == api.OK && spot == at(-1, -1, -1)
}

// P32.2: systems that may be, up to the limits.
func TestRight(t *testing.T) {
	if !isRight(whole()) {
		t.Error(system.Check(whole()))
	}
	one := api.Task{Kind: api.Periodic, Period: 1, Deadline: 1, Own: 64, Code: code()}
	wide := api.Object{Kind: api.Cab, Width: 8, Slots: 16, Cap: 16, Init: make([]uint32, 8), Writer: 7, Readers: []int{0, 1, 2, 3}}
	if !isRight(api.System{Tasks: []api.Task{one}}) || !isRight(api.System{Tasks: []api.Task{one}, Objects: []api.Object{}}) {
		t.Error("one task without objects")
	}
	if s := (api.System{Tasks: slices.Repeat([]api.Task{one}, 8), Objects: slices.Repeat([]api.Object{wide}, 8)}); !isRight(s) {
		t.Error("eight tasks and eight objects")
		t.Error(system.Check(s))
	}
}

// P32.2, 1: how many tasks and objects there may be.
func TestNumbers(t *testing.T) {
	s := whole()
	for _, c := range []struct {
		name           string
		tasks, objects int
	}{{"no tasks", 0, 6}, {"nothing", 0, 0}, {"nine tasks", 9, 6}, {"nine objects", 3, 9}, {"very many of both", 9999, 9999}, {"no tasks, nine objects", 0, 9}} {
		x := api.System{}
		for i := range c.tasks {
			x.Tasks = append(x.Tasks, s.Tasks[i%3])
		}
		for k := range c.objects {
			x.Objects = append(x.Objects, s.Objects[k%6])
		}
		if spot, e := system.Check(x); e != api.ErrArg || spot != at(-1, -1, -1) {
			t.Errorf("%s: %v, %d", c.name, spot, e)
		}
		if c.tasks > 0 {
			x.Tasks[0], x.Objects[0] = api.Task{}, api.Object{}
		}
		if spot, e := system.Check(x); e != api.ErrArg || spot != at(-1, -1, -1) {
			t.Errorf("%s, and more that is wrong: %v, %d", c.name, spot, e)
		}
	}
}

// wrong is a change of a system, and what Check tells of it; the changes stand in the order in which the chapter names what is wrong.
type wrong struct {
	name   string
	change func(s *api.System)
	spot   api.Spot
	e      api.Errno
}

// wrongs are changes of whole(). Each of them changes nothing that another one needs.
func wrongs() []wrong {
	return []wrong{
		{"no tasks", func(s *api.System) { s.Tasks = nil }, at(-1, -1, -1), api.ErrArg},
		{"task 1 is not plain", func(s *api.System) { s.Tasks[1].Prio = 256 }, at(1, -1, -1), api.ErrArg},
		{"task 2 goes nowhere", func(s *api.System) { s.Tasks[2].Code[0] = instr{Op: api.Jump} }, at(2, -1, 0), api.ErrFlow},
		{"object 1 has no slots", func(s *api.System) { s.Objects[1].Slots = 1 }, at(-1, 1, -1), api.ErrForm},
		{"object 4 is read twice by one", func(s *api.System) { s.Objects[4].Readers[1] = 1 }, at(-1, 4, -1), api.ErrForm},
		{"nobody writes object 0", func(s *api.System) { s.Objects[0].Writer = 7 }, at(7, 0, -1), api.ErrBind},
		{"nobody reads object 3", func(s *api.System) { s.Objects[3].Readers[1] = 3 }, at(3, 3, -1), api.ErrBind},
		{"task 0 calls what is not there", func(s *api.System) { s.Tasks[0].Code[1].B = 6 }, at(0, 6, 1), api.ErrCall},
		{"task 0 puts into what is no queue", func(s *api.System) { s.Tasks[0].Code[2].Op = api.Put }, at(0, 2, 2), api.ErrCall},
		{"task 0 reads what it writes", func(s *api.System) { s.Tasks[0].Code[3].Op = api.Read }, at(0, 3, 3), api.ErrBind},
		{"task 1 reads behind its words", func(s *api.System) { s.Tasks[1].Code[1].N = 10 }, at(1, 1, 1), api.ErrRange},
		{"task 1 writes what it reads", func(s *api.System) { s.Tasks[1].Code[2].Op = api.Write }, at(1, 2, 2), api.ErrBind},
	}
}

// P32.2: one thing that is wrong, or two of them: the first one is told.
func TestFirstWrong(t *testing.T) {
	l := wrongs()
	for i, w := range l {
		s := whole()
		w.change(&s)
		if spot, e := system.Check(s); e != w.e || spot != w.spot {
			t.Errorf("%s: %v, %d, not %v, %d", w.name, spot, e, w.spot, w.e)
		}
		for _, later := range l[i+1:] {
			s := whole()
			later.change(&s)
			w.change(&s)
			if spot, e := system.Check(s); e != w.e || spot != w.spot {
				t.Errorf("%s, and %s: %v, %d, not %v, %d", w.name, later.name, spot, e, w.spot, w.e)
			}
		}
	}
}

// P32.2, 2: whatever task.Fault tells, of the first task that has a fault.
func TestTasks(t *testing.T) {
	for i := range 3 {
		for _, change := range []func(x *api.Task){
			func(x *api.Task) { x.Kind = 0 }, func(x *api.Task) { x.Own = 0 }, func(x *api.Task) { x.Own = 65 }, func(x *api.Task) { x.Deadline = 91 },
			func(x *api.Task) { x.Code = nil }, func(x *api.Task) { x.Code = make([]instr, 65) }, func(x *api.Task) { x.Code[1].A = 8 },
			func(x *api.Task) { x.Code = x.Code[:2] }, func(x *api.Task) { x.Code[2] = instr{Op: api.Back, C: 1, N: 3} },
			func(x *api.Task) { x.Code[1], x.Code[2] = instr{Op: api.Back, C: 1}, instr{Op: api.Back, C: 1, N: 1} },
		} {
			s := whole()
			change(&s.Tasks[i])
			for j := i + 1; j < 3; j++ {
				s.Tasks[j] = api.Task{}
			}
			place, fault := task.Fault(s.Tasks[i])
			if spot, e := system.Check(s); fault == api.OK || e != fault || spot != at(i, -1, place) {
				t.Errorf("task %d, %v: %v, %d, not %d, %d", i, s.Tasks[i], spot, e, place, fault)
			}
		}
	}
}

// P32.2, 3: of objects that are not right the first one.
func TestObjects(t *testing.T) {
	for k := range 6 {
		for _, change := range []func(o *api.Object){
			func(o *api.Object) { o.Kind = 0 }, func(o *api.Object) { o.Kind = 7 }, func(o *api.Object) { o.Width = 9 }, func(o *api.Object) { o.Slots = 17 },
			func(o *api.Object) { o.Readers = nil }, func(o *api.Object) { o.Writer = -1 }, func(o *api.Object) { o.Writer = 8 },
			func(o *api.Object) { o.Readers[0] = o.Writer }, func(o *api.Object) { o.Readers[0] = 8 }, func(o *api.Object) { o.Readers[0] = math.MinInt },
		} {
			s := whole()
			change(&s.Objects[k])
			for j := k + 1; j < 6; j++ {
				s.Objects[j] = api.Object{}
			}
			if spot, e := system.Check(s); object.Right(s.Objects[k]) || e != api.ErrForm || spot != at(-1, k, -1) {
				t.Errorf("%v: %v, %d", s.Objects[k], spot, e)
			}
		}
	}
}

// P32.2, 4: who is no task, the Writer ahead of the Readers, of the first object.
func TestUsers(t *testing.T) {
	for _, c := range []struct {
		name   string
		change func(l []api.Object)
		spot   api.Spot
	}{
		{"a writer", func(l []api.Object) { l[2].Writer = 3 }, at(3, 2, -1)},
		{"a reader", func(l []api.Object) { l[5].Readers[0] = 7 }, at(7, 5, -1)},
		{"the second reader", func(l []api.Object) { l[1].Readers[1] = 4 }, at(4, 1, -1)},
		{"both readers", func(l []api.Object) { l[1].Readers[0], l[1].Readers[1] = 6, 4 }, at(6, 1, -1)},
		{"a writer and a reader", func(l []api.Object) { l[0].Writer, l[0].Readers[0] = 6, 5 }, at(6, 0, -1)},
		{"of two objects", func(l []api.Object) { l[3].Readers[1], l[4].Writer = 5, 3 }, at(5, 3, -1)},
	} {
		s := whole()
		c.change(s.Objects)
		if spot, e := system.Check(s); e != api.ErrBind || spot != c.spot {
			t.Errorf("%s: %v, %d, not %v", c.name, spot, e, c.spot)
		}
	}
	s := whole()
	s.Objects[0].Writer, s.Tasks = 2, s.Tasks[:2]
	if spot, e := system.Check(s); e != api.ErrBind || spot != at(2, 0, -1) {
		t.Errorf("a task less: %v, %d", spot, e)
	}
}

// P32.2, 5: each kind of call of each object by each task, with N up to the last word of one's own, and behind it.
func TestCalls(t *testing.T) {
	ops := map[int]int{api.Read: api.OpRead, api.Write: api.OpWrite, api.Put: api.OpPut, api.Take: api.OpTake}
	for i := range 3 {
		for k := range api.MaxObjects {
			for op := range ops {
				for n := range uint32(12) {
					s := whole()
					s.Tasks[i].Code = code(instr{Op: api.Nop}, instr{Op: op, A: 1, B: k, N: n})
					want := api.OK
					if k > 5 || (op == api.Put || op == api.Take) != (k == 5) {
						want = api.ErrCall
					} else if o := s.Objects[k]; (op == api.Write || op == api.Put) != (i == 0) || i > 0 && !slices.Contains(o.Readers, i) {
						want = api.ErrBind
					} else if int(n)+o.Width > 10 {
						want = api.ErrRange
					}
					spot, e := system.Check(s)
					if e != want || e != api.OK && spot != at(i, k, 1) || e == api.OK && spot != at(-1, -1, -1) {
						t.Fatalf("task %d, object %d, kind %d, N %d: %v, %d, not %d", i, k, op, n, spot, e, want)
					}
				}
			}
		}
	}
}

// P32.2, 5: the first task, and its first instruction; what no walk reaches is looked at, too.
func TestFirstCall(t *testing.T) {
	bind, call, far := instr{Op: api.Write, B: 0}, instr{Op: api.Read, B: 7}, instr{Op: api.Read, B: 0, N: 9}
	for _, c := range []struct {
		l    []instr
		spot api.Spot
		e    api.Errno
	}{
		{code(bind, call, far), at(1, 0, 0), api.ErrBind},
		{code(far, bind, call), at(1, 0, 0), api.ErrRange},
		{code(instr{}, call, far), at(1, 7, 1), api.ErrCall},
		{code(instr{Op: api.Jump, N: 3}, instr{}, far), at(1, 0, 2), api.ErrRange},
		{code(instr{Op: api.Done}, instr{Op: api.Read, B: 0, N: 8}, far), at(1, 0, 2), api.ErrRange},
	} {
		s := whole()
		s.Tasks[1].Code, s.Tasks[2].Code = c.l, code(call)
		if spot, e := system.Check(s); e != c.e || spot != c.spot {
			t.Errorf("%v: %v, %d, not %v, %d", c.l, spot, e, c.spot, c.e)
		}
	}
}

// P32.3: who does what.
func TestRole(t *testing.T) {
	s := whole()
	roles := [3][6]int{
		{api.OpWrite, api.OpWrite, api.OpWrite, api.OpWrite, api.OpWrite, api.OpPut},
		{api.OpRead, api.OpRead, api.OpRead, api.OpRead, api.OpRead, 0},
		{0, api.OpRead, 0, api.OpRead, api.OpRead, api.OpTake},
	}
	for i := -1; i < 5; i++ {
		for k := -1; k < 8; k++ {
			want := 0
			if i >= 0 && i < 3 && k >= 0 && k < 6 {
				want = roles[i][k]
			}
			if op, ok := system.Role(s, i, k); op != want || ok != (want != 0) {
				t.Errorf("task %d, object %d: %d, %v", i, k, op, ok)
			}
		}
	}
	for _, n := range []int{math.MinInt, math.MaxInt} {
		if op, ok := system.Role(s, n, 0); op != 0 || ok {
			t.Errorf("task %d: %d", n, op)
		}
		if op, ok := system.Role(s, 0, n); op != 0 || ok {
			t.Errorf("object %d: %d", n, op)
		}
	}
}

// P32.3: who does what in systems that may not be.
func TestRoleOfAnySystem(t *testing.T) {
	s := api.System{Tasks: make([]api.Task, 12), Objects: []api.Object{
		{Kind: 9, Writer: 1, Readers: []int{2}},
		{Kind: api.Fifo, Writer: 11, Readers: []int{11, 4, 5, 6, 7, 8}},
		{Kind: api.Seq, Writer: -1, Readers: []int{-1, 12, 3, 3}},
	}}
	for _, c := range []struct {
		task, object, op int
		ok               bool
	}{{1, 0, 0, false}, {2, 0, 0, false}, {11, 1, api.OpPut, true}, {8, 1, api.OpTake, true}, {3, 2, api.OpRead, true}, {-1, 2, 0, false}, {12, 2, 0, false}, {0, 2, 0, false}} {
		if op, ok := system.Role(s, c.task, c.object); op != c.op || ok != c.ok {
			t.Errorf("task %d, object %d: %d, %v", c.task, c.object, op, ok)
		}
	}
	if op, ok := system.Role(api.System{}, 0, 0); op != 0 || ok {
		t.Error("of nothing")
	}
	if op, ok := system.Role(api.System{Objects: s.Objects}, 3, 2); op != 0 || ok {
		t.Error("without tasks")
	}
}

// changes are changes of each part of a system like whole().
func changes() []func(s *api.System) {
	return []func(s *api.System){
		func(s *api.System) { s.Tasks[2].Kind++ }, func(s *api.System) { s.Tasks[0].Prio++ }, func(s *api.System) { s.Tasks[1].Period++ },
		func(s *api.System) { s.Tasks[2].Offset++ }, func(s *api.System) { s.Tasks[0].Deadline++ }, func(s *api.System) { s.Tasks[1].Own++ },
		func(s *api.System) { s.Tasks[2].Code[1].N++ }, func(s *api.System) { s.Tasks[0].Code[0].A++ }, func(s *api.System) { s.Tasks[1].Code = nil },
		func(s *api.System) { s.Tasks = s.Tasks[:2] }, func(s *api.System) { s.Tasks = append(s.Tasks, api.Task{}) }, func(s *api.System) { s.Tasks = nil },
		func(s *api.System) { s.Tasks[0], s.Tasks[1] = s.Tasks[1], s.Tasks[0] },
		func(s *api.System) { s.Objects[5].Kind++ }, func(s *api.System) { s.Objects[0].Width++ }, func(s *api.System) { s.Objects[1].Slots++ },
		func(s *api.System) { s.Objects[2].Cap++ }, func(s *api.System) { s.Objects[3].Start++ }, func(s *api.System) { s.Objects[4].Writer++ },
		func(s *api.System) { s.Objects[0].Init[1]++ }, func(s *api.System) { s.Objects[1].Init = nil }, func(s *api.System) { s.Objects[5].Init = []uint32{0} },
		func(s *api.System) { s.Objects[3].Readers[1]++ }, func(s *api.System) { s.Objects[5].Readers = nil }, func(s *api.System) { s.Objects[2].Readers = []int{1, 2} },
		func(s *api.System) { s.Objects = s.Objects[:5] }, func(s *api.System) { s.Objects = append(s.Objects, api.Object{}) }, func(s *api.System) { s.Objects = nil },
		func(s *api.System) { s.Objects[0], s.Objects[1] = s.Objects[1], s.Objects[0] },
	}
}

// P32.3: Same looks at each part, and a copy is the same, and apart.
func TestSameAndCopy(t *testing.T) {
	if !system.Same(whole(), whole()) {
		t.Error("a system is not the same as itself")
	}
	for i, change := range changes() {
		s := whole()
		c := system.Copy(s)
		if !system.Same(s, c) || !system.Same(c, s) {
			t.Fatal("a copy is another one")
		}
		change(&c)
		if system.Same(s, c) || system.Same(c, s) || !system.Same(s, whole()) || !system.Same(c, system.Copy(c)) {
			t.Errorf("change %d", i)
		}
	}
	none, empty := api.System{}, api.System{Tasks: []api.Task{}, Objects: []api.Object{}}
	if !system.Same(none, empty) || !system.Same(empty, none) || !system.Same(system.Copy(none), empty) || !system.Same(system.Copy(empty), none) {
		t.Error("nil and empty mean the same")
	}
	odd := api.System{Tasks: []api.Task{{Own: -1, Code: []instr{{Op: -5}}}}, Objects: []api.Object{{Kind: 99, Writer: -3, Init: []uint32{}, Readers: []int{math.MinInt}}}}
	if !system.Same(odd, system.Copy(odd)) || system.Same(odd, whole()) {
		t.Error("of a system that may not be")
	}
}

// P32.1: the lists of a copy have no room in common with what was copied.
func TestCopyHasItsOwnRoom(t *testing.T) {
	s := whole()
	s.Tasks[0].Code = append(make([]instr, 2, 9), instr{})[:2]
	s.Objects[0].Init = make([]uint32, 2, 9)
	s.Objects[0].Readers = make([]int, 1, 9)
	c := system.Copy(s)
	_ = append(c.Tasks[0].Code, instr{Op: 7})
	_ = append(c.Objects[0].Init, 7)
	_ = append(c.Objects[0].Readers, 7)
	if s.Tasks[0].Code[:3][2].Op != 0 || s.Objects[0].Init[:3][2] != 0 || s.Objects[0].Readers[:2][1] != 0 {
		t.Error("not apart")
	}
}

// P32.1: what is handed in is not changed, also where there is room behind the readers.
func TestPure(t *testing.T) {
	s, want := whole(), whole()
	s.Objects[0].Readers = append(make([]int, 0, 9), 1)
	for range 2 {
		system.Check(s)
		system.Role(s, 1, 1)
		system.Copy(s)
		system.Same(s, want)
	}
	if !system.Same(s, want) || s.Objects[0].Readers[:2][1] != 0 {
		t.Error("changed")
	}
}

// stray is whole(), with some of its numbers otherwise.
func stray(r *rand.Rand) api.System {
	s := whole()
	for range r.IntN(3) {
		x := &s.Tasks[r.IntN(len(s.Tasks))]
		i := &x.Code[r.IntN(len(x.Code))]
		switch r.IntN(6) {
		case 0:
			i.B = r.IntN(9)
		case 1:
			i.Op = api.Read + r.IntN(5)
		case 2:
			i.N = uint32(r.IntN(12))
		case 3:
			x.Own = r.IntN(12)
		case 4:
			s.Objects[r.IntN(6)].Writer = r.IntN(4)
		case 5:
			s.Objects[r.IntN(6)].Readers[0] = r.IntN(4)
		}
	}
	return s
}

// P32.4: in a system that may be each call is one that its object takes, of a record that has room.
func TestCallsAreTaken(t *testing.T) {
	r := rand.New(rand.NewPCG(32, 4))
	right, calls := 0, 0
	for range 3000 {
		s := stray(r)
		if !isRight(s) {
			continue
		}
		right++
		l, e := layout.Of(s)
		if e != api.OK {
			t.Fatal("no layout")
		}
		for i, x := range s.Tasks {
			for _, in := range x.Code {
				k, op, ok := isa.Calls(in)
				if !ok {
					continue
				}
				calls++
				role, _ := system.Role(s, i, k)
				o := s.Objects[k]
				reader, reads := object.Reader(o, i)
				var rec []uint32
				if !reads {
					rec = make([]uint32, o.Width)
				}
				if _, e := object.Begin(o, l.Objects[k].At, op, reader, rec); e != api.OK || role != op || int(in.N)+o.Width > x.Own {
					t.Fatalf("%v: task %d, %v: %d", s, i, in, e)
				}
			}
		}
	}
	if right < 500 || right > 2900 || calls < 5000 {
		t.Errorf("just %d systems, %d calls", right, calls)
	}
}
