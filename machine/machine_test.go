package machine_test

import (
	"math"
	"math/rand/v2"
	"slices"
	"testing"

	"coxswain/api"
	"coxswain/layout"
	"coxswain/machine"
	"coxswain/system"
	"coxswain/task"
)

type (
	event = api.Event
	instr = api.Instr
)

// made is a machine of a system, at its beginning.
func made(t *testing.T, s api.System) *machine.Machine {
	t.Helper()
	x, spot, e := machine.New(s)
	if x == nil || e != api.OK || spot != (api.Spot{Task: -1, Object: -1, At: -1}) {
		t.Fatalf("no machine of %v: %v, %d", s, spot, e)
	}
	return x
}

// on is what comes of so many ticks, in which nobody is asked for.
func on(x *machine.Machine, ticks int) []event {
	var l []event
	for range ticks {
		l = append(l, x.Tick(nil)...)
	}
	return l
}

// come fails if other events came than these.
func come(t *testing.T, what string, l []event, want ...event) {
	t.Helper()
	if !slices.Equal(l, want) {
		t.Fatalf("%s:\n%v, not\n%v", what, l, want)
	}
}

// What comes, at a time, to a task.
func released(at, i, no int) event   { return event{T: at, Kind: api.EvRelease, Task: i, A: no} }
func refused(at, i int) event        { return event{T: at, Kind: api.EvRefuse, Task: i} }
func over(at, i int) event           { return event{T: at, Kind: api.EvOver, Task: i} }
func missed(at, i, no int) event     { return event{T: at, Kind: api.EvMiss, Task: i, A: no} }
func step(at, i, no, b int) event    { return event{T: at, Kind: api.EvStep, Task: i, A: no, B: b} }
func idle(at int) event              { return event{T: at, Kind: api.EvIdle, Task: -1} }
func done(at, i, no, b int) event    { return event{T: at, Kind: api.EvDone, Task: i, A: no, B: b} }
func calls(at, i, k, op int) event   { return event{T: at, Kind: api.EvCall, Task: i, A: k, B: op} }
func backs(at, i, k, code int) event { return event{T: at, Kind: api.EvBack, Task: i, A: k, B: code} }

// A program, and its instructions; of store the register 7, that is 0, tells the word of one's own.
func code(l ...instr) []instr     { return append(l, instr{Op: api.Done}) }
func set(a int, n uint32) instr   { return instr{Op: api.Set, A: a, N: n} }
func store(a int, n uint32) instr { return instr{Op: api.Store, A: a, B: 7, N: n} }
func call(op, a, k, n int) instr  { return instr{Op: op, A: a, B: k, N: uint32(n)} }

// periodic is a periodic task, whose deadline is its period.
func periodic(prio, offset, period, own int, l ...instr) api.Task {
	return api.Task{Kind: api.Periodic, Prio: prio, Period: period, Offset: offset, Deadline: period, Own: own, Code: code(l...)}
}

// sporadic is a sporadic task, whose deadline is its period.
func sporadic(prio, period, own int, l ...instr) api.Task {
	return api.Task{Kind: api.Sporadic, Prio: prio, Period: period, Deadline: period, Own: own, Code: code(l...)}
}

// P41.1: a nil machine has no ticks.
func TestNil(t *testing.T) {
	var x *machine.Machine
	if len(x.Tick([]int{0})) != 0 || x.Now() != 0 || len(x.Jobs()) != 0 || len(x.Calls()) != 0 || len(x.Words()) != 0 || x.Clone() != nil {
		t.Error("a nil machine has something")
	}
	for _, i := range []int{0, -1, math.MaxInt} {
		if f, ok := x.Frame(i); ok || f.PC != 0 || f.Regs != [api.Regs]uint32{} || len(f.Turns) != 0 {
			t.Error(f, ok)
		}
	}
}

// P41: the chapter's example.
func TestExample(t *testing.T) {
	x := made(t, api.System{Tasks: []api.Task{periodic(0, 0, 9, 1, instr{})}})
	come(t, "tick 0", x.Tick(nil), released(0, 0, 0), step(0, 0, 0, 0))
	come(t, "tick 1", x.Tick(nil), step(1, 0, 0, 1), done(1, 0, 0, 2))
	come(t, "up to the next one", on(x, 8), idle(2), idle(3), idle(4), idle(5), idle(6), idle(7), idle(8), released(9, 0, 1), step(9, 0, 1, 0))
	want := []api.Job{{Release: 0, Deadline: 9, End: 2, Steps: 2}, {No: 1, Release: 9, Deadline: 18, Start: 9, End: -1, Steps: 1}}
	if !slices.Equal(x.Jobs(), want) || x.Now() != 10 {
		t.Error(x.Jobs(), x.Now())
	}
}

// shared is a system that may be: task 0 writes object 0, which 1 reads, and 1 puts into object 1, of which 0 takes.
func shared() api.System {
	return api.System{
		Tasks: []api.Task{
			periodic(2, 1, 40, 4, set(1, 70), store(1, 0), call(api.Write, 2, 0, 0), call(api.Take, 3, 1, 2)),
			sporadic(1, 40, 5, call(api.Read, 1, 0, 1), store(1, 4), call(api.Put, 2, 1, 1)),
		},
		Objects: []api.Object{
			{Kind: api.Seq, Width: 1, Cap: 2, Init: []uint32{5}, Writer: 0, Readers: []int{1}},
			{Kind: api.Fifo, Width: 2, Slots: 1, Writer: 1, Readers: []int{0}},
		},
	}
}

// P41.2: whatever system.Check tells is told, and there is no machine.
func TestNoMachine(t *testing.T) {
	for name, change := range map[string]func(s *api.System){
		"nothing":       func(s *api.System) { *s = api.System{} },
		"nine tasks":    func(s *api.System) { s.Tasks = slices.Repeat(s.Tasks, 5)[:9] },
		"nine objects":  func(s *api.System) { s.Objects = slices.Repeat(s.Objects, 5)[:9] },
		"no period":     func(s *api.System) { s.Tasks[1].Period = 0 },
		"no program":    func(s *api.System) { s.Tasks[1].Code = nil },
		"no end":        func(s *api.System) { s.Tasks[0].Code = s.Tasks[0].Code[:2] },
		"a wrong jump":  func(s *api.System) { s.Tasks[0].Code[1] = instr{Op: api.Jump, N: 1} },
		"no width":      func(s *api.System) { s.Objects[1].Width = 0 },
		"nobody":        func(s *api.System) { s.Objects[0].Writer = 7 },
		"no object":     func(s *api.System) { s.Tasks[1].Code[0].B = 5 },
		"no operation":  func(s *api.System) { s.Tasks[1].Code[0].Op = api.Put },
		"not its own":   func(s *api.System) { s.Tasks[1].Code[0].Op = api.Write },
		"no words":      func(s *api.System) { s.Tasks[0].Code[3].N = 3 },
		"huge":          func(s *api.System) { s.Tasks[0].Own, s.Tasks[1].Prio = math.MaxInt, math.MinInt },
		"a huge writer": func(s *api.System) { s.Objects[0].Writer = math.MaxInt },
	} {
		s := shared()
		change(&s)
		wantSpot, wantE := system.Check(s)
		if x, spot, e := machine.New(s); x != nil || spot != wantSpot || e != wantE || e == api.OK {
			t.Errorf("%s: %v, %d, not %v, %d", name, spot, e, wantSpot, wantE)
		}
	}
}

// P41.2: at the beginning all stands as it is laid, and nothing has come.
func TestBeginning(t *testing.T) {
	s := shared()
	x := made(t, s)
	m, l, _ := layout.Lay(s)
	if words, _ := m.Look(api.Region{Len: l.Size}); !slices.Equal(x.Words(), words) || len(words) != 9+2+4 {
		t.Error(x.Words(), words)
	}
	if x.Now() != 0 || len(x.Jobs()) != 0 || len(x.Calls()) != 0 {
		t.Error(x.Now(), x.Jobs(), x.Calls())
	}
	for _, i := range []int{0, 1, 2, -1, math.MinInt, math.MaxInt} {
		if f, ok := x.Frame(i); ok || len(f.Turns) != 0 || f.PC != 0 || f.Regs != [api.Regs]uint32{} {
			t.Error(i, f, ok)
		}
	}
}

// P41.2: it keeps the system in memory of its own.
func TestKeepsItsOwn(t *testing.T) {
	s, same := shared(), shared()
	x, y := made(t, s), made(t, same)
	clear(s.Tasks[0].Code)
	clear(s.Tasks[1].Code)
	clear(s.Objects[0].Init)
	clear(s.Objects[0].Readers)
	clear(s.Objects[1].Readers)
	clear(s.Tasks)
	clear(s.Objects)
	for range 100 {
		asks := []int{1}
		come(t, "as the other one", x.Tick(asks), y.Tick(asks)...)
		if asks[0] != 1 {
			t.Error("the asks were changed")
		}
	}
	if !slices.Equal(x.Words(), y.Words()) || !system.Same(same, shared()) {
		t.Error(x.Words(), y.Words())
	}
}

// P41.3, P41.4: calls tick by tick: of what is written, what is read, and of what is put and taken.
func TestCalls(t *testing.T) {
	s := shared()
	x := made(t, s)
	come(t, "1 is asked for", x.Tick([]int{1}), released(0, 1, 0), calls(0, 1, 0, api.OpRead), step(0, 1, 0, 0))
	sees(t, "a read is under way", x.Calls(), api.Call{Proc: 1, Op: api.OpRead, End: -1})
	if f, ok := x.Frame(1); !ok || f.PC != 0 || len(f.Turns) != 4 {
		t.Error(f, ok)
	}
	// 0 goes ahead, and writes while 1 reads.
	come(t, "ahead of the write", on(x, 2), released(1, 0, 0), step(1, 0, 0, 0), step(2, 0, 0, 1))
	if x.Words()[0] != 70 {
		t.Error(x.Words())
	}
	come(t, "the write", on(x, 4), calls(3, 0, 0, api.OpWrite), step(3, 0, 0, 2), step(4, 0, 0, 2), step(5, 0, 0, 2), backs(6, 0, 0, api.Good), step(6, 0, 0, 2))
	come(t, "nothing to take", on(x, 2), calls(7, 0, 1, api.OpTake), step(7, 0, 0, 3), backs(8, 0, 1, api.Empty), step(8, 0, 0, 3))
	if f, ok := x.Frame(0); !ok || f.PC != 4 || f.Regs != [api.Regs]uint32{1: 70, 3: api.Empty} {
		t.Error(f, ok)
	}
	come(t, "the end of 0", x.Tick(nil), step(9, 0, 0, 4), done(9, 0, 0, 9))
	if f, ok := x.Frame(0); ok || f.PC != 0 || f.Regs != [api.Regs]uint32{} || len(f.Turns) != 0 {
		t.Error(f, ok)
	}
	read := api.Call{Proc: 1, Op: api.OpRead, End: -1}
	write := api.Call{Op: api.OpWrite, Rec: []uint32{70}, Begin: 3, End: 6}
	empty := api.Call{Object: 1, Op: api.OpTake, Code: api.Empty, Begin: 7, End: 8}
	sees(t, "the read is still under way", x.Calls(), read, write, empty)
	// The record that is read now is the new one, but the counter is another one: the attempt fails, the next one does not.
	come(t, "the attempt fails", on(x, 2), step(10, 1, 0, 0), step(11, 1, 0, 0))
	come(t, "the next one", on(x, 3), step(12, 1, 0, 0), step(13, 1, 0, 0), backs(14, 1, 0, api.Good), step(14, 1, 0, 0))
	read.Rec, read.End = []uint32{70}, 14
	sees(t, "the read has ended", x.Calls(), read, write, empty)
	if f, ok := x.Frame(1); !ok || f.PC != 1 || !slices.Equal(x.Words()[4:9], []uint32{0, 70, 0, 0, 0}) {
		t.Error(f, ok, x.Words())
	}
	come(t, "the put", on(x, 6), step(15, 1, 0, 1), calls(16, 1, 1, api.OpPut), step(16, 1, 0, 2), step(17, 1, 0, 2), step(18, 1, 0, 2), step(19, 1, 0, 2), backs(20, 1, 1, api.Good), step(20, 1, 0, 2))
	put := api.Call{Proc: 1, Object: 1, Op: api.OpPut, Rec: []uint32{70, 0}, Begin: 16, End: 20}
	sees(t, "the put", x.Calls(), read, write, empty, put)
	come(t, "the end of 1", x.Tick(nil), step(21, 1, 0, 3), done(21, 1, 0, 22))
	on(x, 19+6)
	come(t, "the take", on(x, 5), calls(47, 0, 1, api.OpTake), step(47, 0, 1, 3), step(48, 0, 1, 3), step(49, 0, 1, 3), step(50, 0, 1, 3), backs(51, 0, 1, api.Good), step(51, 0, 1, 3))
	take := api.Call{Object: 1, Op: api.OpTake, Rec: []uint32{70, 0}, Begin: 47, End: 51}
	write.Begin, write.End = 43, 46
	sees(t, "the last ones", x.Calls()[4:], write, take)
	if !slices.Equal(x.Words()[:4], []uint32{70, 0, 70, 0}) {
		t.Error(x.Words())
	}
}

// sees fails if the calls are not these.
func sees(t *testing.T, what string, l []api.Call, want ...api.Call) {
	t.Helper()
	if !slices.EqualFunc(l, want, alike) {
		t.Fatalf("%s:\n%v, not\n%v", what, l, want)
	}
}

// P41.3: in one tick: deadlines, releases, refusals; then the call; then the step; in the last one of a job, its end.
func TestOrderOfEvents(t *testing.T) {
	late := periodic(1, 0, 3, 1, make([]instr, 5)...)
	late.Deadline = 2
	s := api.System{
		Tasks:   []api.Task{late, sporadic(2, 4, 1, call(api.Put, 0, 0, 0)), sporadic(0, 4, 1)},
		Objects: []api.Object{{Kind: api.Fifo, Width: 1, Slots: 1, Writer: 1, Readers: []int{2}}},
	}
	x := made(t, s)
	come(t, "ticks 0 and 1", on(x, 2), released(0, 0, 0), step(0, 0, 0, 0), step(1, 0, 0, 1))
	come(t, "tick 2", x.Tick([]int{1, 0, 1, 9, 2}), missed(2, 0, 0), released(2, 1, 0), refused(2, 0), refused(2, 1), refused(2, 9), released(2, 2, 0), calls(2, 1, 0, api.OpPut), step(2, 1, 0, 0))
	come(t, "tick 3", x.Tick(nil), over(3, 0), step(3, 1, 0, 0))
	come(t, "ticks 4 and 5", on(x, 2), step(4, 1, 0, 0), backs(5, 1, 0, api.Good), step(5, 1, 0, 0))
	come(t, "tick 6", x.Tick([]int{1, 2}), missed(6, 1, 0), missed(6, 2, 0), over(6, 0), over(6, 1), over(6, 2), step(6, 1, 0, 1), done(6, 1, 0, 5))
	come(t, "tick 7", x.Tick(nil), step(7, 0, 0, 2))
	want := []api.Job{{Deadline: 2, End: -1, Steps: 3, Missed: true}, {Task: 1, Release: 2, Deadline: 6, Start: 2, End: 7, Steps: 5, Missed: true}, {Task: 2, Release: 2, Deadline: 6, Start: -1, End: -1, Missed: true}}
	if !slices.Equal(x.Jobs(), want) {
		t.Error(x.Jobs())
	}
}

// P41.3: a read that ends with Retry, and a put that ends with Full, change no words of the task's own; the code comes to the register.
func TestRetryAndFull(t *testing.T) {
	s := api.System{
		Tasks: []api.Task{
			periodic(1, 3, 100, 1, set(1, 9), store(1, 0), call(api.Write, 0, 0, 0)),
			periodic(0, 0, 100, 3, set(1, 8), store(1, 0), call(api.Read, 6, 0, 0), call(api.Put, 0, 1, 0), call(api.Put, 5, 1, 0)),
		},
		Objects: []api.Object{
			{Kind: api.Seq, Width: 1, Cap: 1, Init: []uint32{5}, Writer: 0, Readers: []int{1}},
			{Kind: api.Fifo, Width: 1, Slots: 1, Writer: 1, Readers: []int{0}},
		},
	}
	x := made(t, s)
	on(x, 3+7)
	come(t, "the read fails", on(x, 2), step(10, 1, 0, 2), backs(11, 1, 0, api.Retry), step(11, 1, 0, 2))
	if f, _ := x.Frame(1); f.PC != 3 || f.Regs != [api.Regs]uint32{1: 8, 6: api.Retry} || x.Words()[1] != 8 {
		t.Error(f, x.Words())
	}
	read := api.Call{Proc: 1, Op: api.OpRead, Code: api.Retry, Begin: 2, End: 11}
	write := api.Call{Op: api.OpWrite, Rec: []uint32{9}, Begin: 5, End: 8}
	sees(t, "the read has failed", x.Calls(), read, write)
	on(x, 4)
	come(t, "the second put", on(x, 3), calls(16, 1, 1, api.OpPut), step(16, 1, 0, 4), backs(17, 1, 1, api.Full), step(17, 1, 0, 4), step(18, 1, 0, 5), done(18, 1, 0, 19))
	put := api.Call{Proc: 1, Object: 1, Op: api.OpPut, Rec: []uint32{8}, Begin: 12, End: 15}
	full := api.Call{Proc: 1, Object: 1, Op: api.OpPut, Rec: []uint32{8}, Code: api.Full, Begin: 16, End: 17}
	sees(t, "all calls", x.Calls(), read, write, put, full)
}

// P41.3: who reads is the reader of its place, and what is written, or read, are as many words as are wide, from N on.
func TestReadersAndWords(t *testing.T) {
	s := api.System{
		Tasks: []api.Task{
			periodic(0, 0, 100, 4, call(api.Read, 0, 0, 1)),
			periodic(1, 0, 100, 9, set(1, 3), store(1, 5), set(1, 4), store(1, 6), call(api.Write, 0, 0, 5)),
			periodic(0, 0, 100, 2, call(api.Read, 0, 0, 0)),
		},
		Objects: []api.Object{{Kind: api.Chen, Width: 2, Init: []uint32{7, 8}, Writer: 1, Readers: []int{2, 0}}},
	}
	x := made(t, s)
	on(x, 5+8+2)
	if got := x.Words(); !slices.Equal(got[:4], make([]uint32, 4)) || !slices.Equal(got[4:13], []uint32{0, 0, 0, 0, 0, 3, 4, 0, 0}) {
		t.Error(got)
	}
	// 0, the second reader, has just marked its word (2) as none.
	if got := x.Words()[15:18]; !slices.Equal(got, []uint32{1, 0, 4}) {
		t.Error(got)
	}
	on(x, 50)
	if got := x.Words(); !slices.Equal(got[:4], []uint32{0, 3, 4, 0}) || !slices.Equal(got[13:18], []uint32{3, 4, 1, 1, 1}) {
		t.Error(got)
	}
}

// sameAs fails if two machines are not seen to be the same.
func sameAs(t *testing.T, what string, x, y *machine.Machine) {
	t.Helper()
	if x.Now() != y.Now() || !slices.Equal(x.Words(), y.Words()) || !slices.Equal(x.Jobs(), y.Jobs()) || !slices.EqualFunc(x.Calls(), y.Calls(), alike) {
		t.Fatalf("%s: at %d and %d: %v %v; %v %v", what, x.Now(), y.Now(), x.Jobs(), x.Calls(), y.Jobs(), y.Calls())
	}
	for i := range api.MaxTasks {
		f, ok := x.Frame(i)
		g, active := y.Frame(i)
		if ok != active || f.PC != g.PC || f.Regs != g.Regs || !slices.Equal(f.Turns, g.Turns) {
			t.Fatalf("%s: frames of %d: %v, %v", what, i, f, g)
		}
	}
}

// P41.4: a clone goes on as one that came the same way, whatever the other one does.
func TestClone(t *testing.T) {
	r := rand.New(rand.NewPCG(41, 4))
	for range 200 {
		s := crowd(r)
		x, first := made(t, s), made(t, s)
		for range r.IntN(100) {
			asks := asking(r, s)
			come(t, "ahead", x.Tick(asks), first.Tick(asks)...)
		}
		y := x.Clone()
		sameAs(t, "the clone", y, first)
		for range 40 {
			// Whatever comes to x in between is nothing to y.
			x.Tick(asking(r, s))
			asks := asking(r, s)
			come(t, "the clone goes on", y.Tick(asks), first.Tick(asks)...)
		}
		sameAs(t, "the clone, further on", y, first)
		second := x.Clone()
		for range 40 {
			y.Tick(asking(r, s))
			asks := asking(r, s)
			come(t, "the first one goes on", second.Tick(asks), x.Tick(asks)...)
		}
		sameAs(t, "the first one, further on", second, x)
	}
}

// overwrite sets all that stands in the memory of a list, up to its capacity.
func overwrite[T any](l []T, x T) {
	for i := range l[:cap(l)] {
		l[:cap(l)][i] = x
	}
}

// P41.1: what is told shares nothing with the machine.
func TestApart(t *testing.T) {
	s := shared()
	s.Tasks[0].Code = code(instr{}, instr{Op: api.Back, C: 3}, set(1, 70), store(1, 0), call(api.Write, 0, 0, 0))
	x, y := made(t, s), made(t, s)
	told := 0
	for range 90 {
		came := x.Tick([]int{1})
		come(t, "a tick", came, y.Tick([]int{1})...)
		overwrite(came, event{T: 99})
		for _, c := range x.Calls() {
			told += len(c.Rec)
			overwrite(c.Rec, 99)
		}
		overwrite(x.Words(), 99)
		overwrite(x.Calls(), api.Call{Proc: 99})
		overwrite(x.Jobs(), api.Job{No: 99})
		for i := range s.Tasks {
			f, _ := x.Frame(i)
			overwrite(f.Turns, 99)
		}
		sameAs(t, "what was told is changed", x, y)
	}
	if told < 100 {
		t.Errorf("just %d words of records were told", told)
	}
}

// P4: wherever counters start, the same comes of the same.
func TestStarts(t *testing.T) {
	r := rand.New(rand.NewPCG(4, 41))
	for range 200 {
		s := crowd(r)
		x := made(t, s)
		from := system.Copy(s)
		for k := range from.Objects {
			from.Objects[k].Start = 0
		}
		y := made(t, from)
		for range 300 {
			asks := asking(r, s)
			come(t, "wherever it starts", x.Tick(asks), y.Tick(asks)...)
		}
		if !slices.Equal(x.Jobs(), y.Jobs()) || !slices.EqualFunc(x.Calls(), y.Calls(), alike) {
			t.Fatal(x.Calls(), y.Calls())
		}
	}
}

// groups is a system of tasks 0 and 1, that go ahead of 2 to 4, and share no objects with these.
func groups(r *rand.Rand) api.System {
	var s api.System
	for i := range 5 {
		x := somebody(r)
		if x.Prio = r.IntN(2); i < 2 {
			x.Prio += 1 + r.IntN(2)
		}
		s.Tasks = append(s.Tasks, x)
	}
	s.Objects = []api.Object{among(r, []int{0, 1}), among(r, []int{0, 1}), among(r, []int{2, 3, 4})}
	for i := range s.Tasks {
		s.Tasks[i].Code = program(r, s, i)
	}
	return s
}

// of is what came to these tasks.
func of(l []event, tasks ...int) []event {
	return slices.DeleteFunc(slices.Clone(l), func(e event) bool { return !slices.Contains(tasks, e.Task) })
}

// P5: whoever goes ahead of others is not disturbed by them.
func TestNotDisturbed(t *testing.T) {
	r := rand.New(rand.NewPCG(5, 41))
	for range 300 {
		s, other := groups(r), groups(r)
		other.Tasks[0], other.Tasks[1] = task.Copy(s.Tasks[0]), task.Copy(s.Tasks[1])
		same := system.Copy(s)
		other.Objects[0], other.Objects[1] = same.Objects[0], same.Objects[1]
		if !slices.Equal(task.Above(other.Tasks, 0), task.Above(s.Tasks, 0)) || len(task.Above(other.Tasks, 2)) < 2 {
			t.Fatal("others go ahead")
		}
		x, y := made(t, s), made(t, other)
		for range 200 {
			asks := asking(r, s)
			come(t, "whoever goes behind", of(x.Tick(asks), 0, 1), of(y.Tick(asks), 0, 1)...)
		}
		behind := func(c api.Call) bool { return c.Object == 2 }
		if !slices.EqualFunc(slices.DeleteFunc(x.Calls(), behind), slices.DeleteFunc(y.Calls(), behind), alike) {
			t.Fatal(x.Calls(), y.Calls())
		}
	}
}

// P5: if all comes later, all comes later by as much.
func TestLater(t *testing.T) {
	r := rand.New(rand.NewPCG(5, 42))
	for range 200 {
		s := crowd(r)
		by := r.IntN(60)
		late := system.Copy(s)
		for i := range late.Tasks {
			if late.Tasks[i].Kind == api.Periodic {
				late.Tasks[i].Offset += by
			}
		}
		x, y := made(t, s), made(t, late)
		for at := range by {
			come(t, "ahead of all", y.Tick(nil), idle(at))
		}
		for range 200 {
			asks := asking(r, s)
			came := x.Tick(asks)
			for i := range came {
				came[i].T += by
			}
			come(t, "later", y.Tick(asks), came...)
		}
		if !slices.Equal(x.Words(), y.Words()) {
			t.Fatal(x.Words(), y.Words())
		}
	}
}
