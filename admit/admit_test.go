package admit_test

import (
	"math"
	"math/rand/v2"
	"slices"
	"testing"

	"coxswain/admit"
	"coxswain/api"
	"coxswain/interfere"
	"coxswain/rta"
	"coxswain/size"
	"coxswain/system"
)

// instr, and code, are an instruction, and a program that ends with done.
type instr = api.Instr

func code(l ...instr) []instr { return append(l, instr{Op: api.Done}) }

// busy is a plain periodic task.
func busy(prio, period int, l ...instr) api.Task {
	return api.Task{Kind: api.Periodic, Prio: prio, Period: period, Deadline: period, Own: 4, Code: code(l...)}
}

// whole is a system that is admitted: task 1 writes seq, the ring, cab and the queue, 0 and 2 read the first three, 2 takes; 1 goes ahead of 2, that goes ahead of 0.
func whole() api.System {
	read := func(k int) instr { return instr{Op: api.Read, B: k} }
	write := func(k int) instr { return instr{Op: api.Write, B: k} }
	first := []uint32{5}
	return api.System{
		Tasks: []api.Task{
			busy(1, 900, read(2), read(1), read(0)),
			busy(3, 100, write(0), write(1), write(2), instr{Op: api.Put, B: 3}),
			busy(2, 300, read(0), read(1), instr{Op: api.Take, B: 3}, read(2)),
		},
		Objects: []api.Object{
			{Kind: api.Seq, Width: 1, Cap: 2, Init: first, Writer: 1, Readers: []int{2, 0}},
			{Kind: api.Ring, Width: 1, Slots: 3, Cap: 1, Init: first, Writer: 1, Readers: []int{2, 0}},
			{Kind: api.Cab, Width: 1, Slots: 4, Cap: 2, Init: first, Writer: 1, Readers: []int{0, 2}},
			{Kind: api.Fifo, Width: 1, Slots: 1, Writer: 1, Readers: []int{2}},
		},
	}
}

// verdict is the verdict on a system that is not admitted.
func verdict(e api.Errno, i, k int) api.Verdict { return api.Verdict{E: e, Task: i, Object: k} }

// says tells whether Check, and Admits, say this.
func says(t *testing.T, name string, s api.System, want api.Verdict) {
	t.Helper()
	v := admit.Check(s)
	if v.E != want.E || v.Task != want.Task || v.Object != want.Object || !slices.Equal(v.R, want.R) {
		t.Errorf("%s: %v, not %v", name, v, want)
	}
	if admit.Admits(s) != (want.E == api.OK) {
		t.Errorf("%s: admitted: %t", name, admit.Admits(s))
	}
}

// P40.2: OK, and the responses; the chapter's example.
func TestAdmitted(t *testing.T) {
	s := whole()
	responses, _, _, _ := rta.All(s)
	says(t, "whole", s, api.Verdict{E: api.OK, Task: -1, Object: -1, R: responses})
	if r := admit.Check(s).R; len(r) != 3 || r[1] != 4+3+5+4+1 {
		t.Error(r)
	}
	one := api.System{Tasks: []api.Task{busy(0, 9, make([]instr, 4)...)}}
	says(t, "one task", one, api.Verdict{Task: -1, Object: -1, R: []int{5}})
	one.Tasks[0].Deadline = 5
	says(t, "just in time", one, api.Verdict{Task: -1, Object: -1, R: []int{5}})
	one.Tasks[0].Deadline = 4
	says(t, "the example", one, verdict(api.ErrLate, 0, -1))
	says(t, "nothing", api.System{}, verdict(api.ErrArg, -1, -1))
}

// wrong is a change of whole(), and what Check says of it; they stand in the order in which the chapter names them.
type wrong struct {
	name   string
	change func(s *api.System)
	want   api.Verdict
}

// wrongs are changes of which each is told with all those behind it.
func wrongs() []wrong {
	return []wrong{
		{"no program", func(s *api.System) { s.Tasks[0].Code = nil }, verdict(api.ErrArg, 0, -1)},
		{"no period", func(s *api.System) { s.Tasks[2].Period = 0 }, verdict(api.ErrArg, 2, -1)},
		{"no attempts", func(s *api.System) { s.Objects[2].Cap = 0 }, verdict(api.ErrForm, -1, 2)},
		{"a reader that is no task", func(s *api.System) { s.Objects[3].Readers[0] = 3 }, verdict(api.ErrBind, 3, 3)},
		{"a call that may not be", func(s *api.System) { s.Tasks[1].Code[0].B = 4 }, verdict(api.ErrCall, 1, 4)},
		{"0 reads ahead of the writer", func(s *api.System) { s.Tasks[0].Prio = 4 }, verdict(api.ErrRetry, 0, 0)},
		{"2 reads ahead of the writer", func(s *api.System) { s.Tasks[2].Prio = 4 }, verdict(api.ErrRetry, 2, 0)},
		{"the writer is late", func(s *api.System) { s.Tasks[1].Deadline = 15 }, verdict(api.ErrLate, 1, -1)},
		{"2 is late", func(s *api.System) { s.Tasks[2].Deadline = 20 }, verdict(api.ErrLate, 2, -1)},
		{"0 is late", func(s *api.System) { s.Tasks[0].Deadline = 30 }, verdict(api.ErrLate, 0, -1)},
		{"one attempt of seq", func(s *api.System) { s.Objects[0].Cap = 1 }, verdict(api.ErrRetry, 2, 0)},
		{"two slots of the ring", func(s *api.System) { s.Objects[1].Slots = 2 }, verdict(api.ErrSize, 2, 1)},
		{"one attempt of cab", func(s *api.System) { s.Objects[2].Cap = 1 }, verdict(api.ErrRetry, 0, 2)},
	}
}

// P40.2: one thing that is wrong, or two of them: the first one is told.
func TestFirstWrong(t *testing.T) {
	l := wrongs()
	for at, w := range l {
		s := whole()
		w.change(&s)
		says(t, w.name, s, w.want)
		for _, later := range l[at+1:] {
			s := whole()
			later.change(&s)
			w.change(&s)
			says(t, w.name+", and "+later.name, s, w.want)
		}
	}
}

// P40.2, 1: whatever system.Check tells, with its task and object.
func TestChecked(t *testing.T) {
	s := whole()
	s.Objects[0].Writer = 7
	says(t, "nobody writes", s, verdict(api.ErrBind, 7, 0))
	s = whole()
	s.Tasks[1].Code[2].N = 4
	says(t, "a record without room", s, verdict(api.ErrRange, 1, 2))
	s = whole()
	s.Tasks = slices.Repeat(s.Tasks, 3)
	says(t, "nine tasks", s, verdict(api.ErrArg, -1, -1))
	s = whole()
	s.Tasks[1].Prio = math.MinInt
	says(t, "a task that is not plain", s, verdict(api.ErrArg, 1, -1))
}

// P40.2, 2: the first task comes ahead of the first object; a reader that never reads is none.
func TestHopeless(t *testing.T) {
	s := whole()
	s.Objects[2], s.Objects[0] = s.Objects[0], s.Objects[2]
	s.Objects = append(s.Objects, s.Objects[2])
	s.Objects[4].Readers = []int{0, 2}
	s.Tasks[2].Code = code(instr{Op: api.Read, B: 2})
	s.Tasks[0].Code = code(instr{Op: api.Read, B: 4})
	s.Tasks[1].Prio = 0
	says(t, "the first task, of the last object", s, verdict(api.ErrRetry, 0, 4))
	s.Tasks[0].Code = code(instr{Op: api.Read, B: 4}, instr{Op: api.Read, B: 2})
	says(t, "its first object", s, verdict(api.ErrRetry, 0, 2))
	s.Tasks[0].Code = code()
	says(t, "the first task that reads", s, verdict(api.ErrRetry, 2, 2))
	s.Tasks[2].Code = code()
	if !admit.Admits(s) {
		t.Error("nobody reads:", admit.Check(s))
	}
}

// P40.2, 3: a response that is not found; who goes first of all that are late.
func TestLate(t *testing.T) {
	s := api.System{Tasks: []api.Task{busy(1, api.MaxPeriod), busy(2, 1)}}
	says(t, "all ticks are taken", s, verdict(api.ErrOver, 0, -1))
	s.Tasks[0].Deadline = 10000
	says(t, "all ticks are taken up to the deadline", s, verdict(api.ErrLate, 0, -1))
	s = whole()
	s.Tasks[0].Deadline, s.Tasks[2].Deadline = 1, 1
	says(t, "2 goes ahead of 0", s, verdict(api.ErrLate, 2, -1))
}

// P40.2, 4: up to how many slots, and attempts, it is too few; the first object comes ahead of the first reader, and readers come as they stand there.
func TestTooFew(t *testing.T) {
	// The writer writes four times, and the responses reach into one release of it.
	four := func(k int) []instr { return slices.Repeat([]instr{{Op: api.Write, B: k}}, 4) }
	for _, c := range []struct{ k, too, enough int }{{0, 4, 5}, {1, 5, 6}, {2, 4, 5}} {
		s := whole()
		s.Tasks[1].Code = code(four(c.k)...)
		set := func(n int) {
			if c.k == 1 {
				s.Objects[c.k].Slots = n
			} else {
				s.Objects[c.k].Cap = n
			}
		}
		e := api.ErrRetry
		if c.k == 1 {
			e = api.ErrSize
		}
		set(c.too)
		says(t, "too few", s, verdict(e, s.Objects[c.k].Readers[0], c.k))
		slices.Reverse(s.Objects[c.k].Readers)
		says(t, "too few, of the other one first", s, verdict(e, s.Objects[c.k].Readers[0], c.k))
		set(c.enough)
		if v := admit.Check(s); v.E != api.OK || slices.Max(v.R) > 100 {
			t.Errorf("object %d: %v", c.k, v)
		}
	}
	// A ring needs slots, whatever attempts it has.
	s := whole()
	s.Objects[1].Slots, s.Objects[1].Cap = 2, 16
	says(t, "a ring of many attempts", s, verdict(api.ErrSize, 2, 1))
	// A reader whose response reaches into one release more has more writes: only that one is told.
	s = whole()
	s.Tasks[1].Period, s.Tasks[1].Deadline = 50, 50
	says(t, "the one that takes longer, of seq", s, verdict(api.ErrRetry, 0, 0))
	if interfere.Writes(s, 2, 1, 50) != 1 || interfere.Writes(s, 0, 1, 51) != 2 {
		t.Error(interfere.Writes(s, 2, 1, 50), interfere.Writes(s, 0, 1, 51))
	}
	s.Objects[0].Cap = 3
	says(t, "the one that takes longer, of the ring", s, verdict(api.ErrSize, 0, 1))
	s.Objects[1].Slots = 4
	says(t, "the one that takes longer, of cab", s, verdict(api.ErrRetry, 0, 2))
	s.Objects[2].Cap = 3
	if !admit.Admits(s) {
		t.Error(admit.Check(s))
	}
}

// P40.1: what is handed in is not changed, what is told shares nothing.
func TestApart(t *testing.T) {
	s := whole()
	r := admit.Check(s).R
	was := slices.Clone(r)
	clear(r)
	if !slices.Equal(admit.Check(s).R, was) || !system.Same(s, whole()) {
		t.Error(admit.Check(s).R, s)
	}
}

// some picks one of the items.
func some[T any](rnd *rand.Rand, l ...T) T { return l[rnd.IntN(len(l))] }

// crowd is a system that may be, and may be admitted: tasks of all kinds, that share objects of all kinds.
func crowd(rnd *rand.Rand) api.System {
	var s api.System
	for range 2 + rnd.IntN(4) {
		x := busy(rnd.IntN(9), some(rnd, 30, 45, 70, 110, 160, 400))
		if rnd.IntN(2) == 0 {
			x.Kind = api.Sporadic
		} else {
			x.Offset = rnd.IntN(30)
		}
		x.Deadline -= rnd.IntN(10)
		s.Tasks = append(s.Tasks, x)
	}
	for range 1 + rnd.IntN(3) {
		s.Objects = append(s.Objects, among(rnd, len(s.Tasks)))
	}
	for i := range s.Tasks {
		s.Tasks[i].Code = body(rnd, s, i)
	}
	return s
}

// among is an object that some of so many tasks share.
func among(rnd *rand.Rand, tasks int) api.Object {
	users := rnd.Perm(tasks)
	o := api.Object{Kind: 1 + rnd.IntN(6), Width: 1 + rnd.IntN(3), Writer: users[0], Readers: users[1:][:1+rnd.IntN(min(2, tasks-1))]}
	o.Init = make([]uint32, o.Width)
	switch o.Kind {
	case api.Four:
		o.Readers = o.Readers[:1]
	case api.Seq:
		o.Cap, o.Start = 1+rnd.IntN(5), math.MaxUint32-1
	case api.Ring:
		o.Slots, o.Cap = 2+rnd.IntN(7), 1+rnd.IntN(2)
		o.Start = uint32(o.Slots)*api.Wrap - 1
	case api.Cab:
		o.Slots, o.Cap = 4, 1+rnd.IntN(5)
	case api.Fifo:
		o.Slots, o.Init, o.Readers = 1+rnd.IntN(3), nil, o.Readers[:1]
	}
	return o
}

// body is a program of a task of the system: the calls that it may make, or some of them, nops, a way round, a loop.
func body(rnd *rand.Rand, s api.System, i int) []instr {
	var l []instr
	for k := range s.Objects {
		op, ok := system.Role(s, i, k)
		if !ok || rnd.IntN(5) == 0 {
			continue
		}
		call := map[int]int{api.OpRead: api.Read, api.OpWrite: api.Write, api.OpPut: api.Put, api.OpTake: api.Take}[op]
		l = append(l, instr{Op: call, A: rnd.IntN(2), B: k})
	}
	rnd.Shuffle(len(l), func(a, b int) { l[a], l[b] = l[b], l[a] })
	l = append(l, make([]instr, rnd.IntN(3))...)
	if rnd.IntN(3) == 0 {
		l = append([]instr{{Op: api.Zero, A: rnd.IntN(3), N: 2}, {}}, l...)
	}
	if len(l) > 0 && rnd.IntN(5) == 0 {
		l = append(l, instr{Op: api.Back, C: 1 + rnd.IntN(2)})
	}
	return code(l...)
}

// plainly is what P40.2 says, word by word.
func plainly(s api.System) api.Verdict {
	if spot, e := system.Check(s); e != api.OK {
		return verdict(e, spot.Task, spot.Object)
	}
	for i := range s.Tasks {
		for k := range s.Objects {
			if interfere.Hopeless(s, i, k) {
				return verdict(api.ErrRetry, i, k)
			}
		}
	}
	r, _, at, e := rta.All(s)
	if e != api.OK {
		return verdict(e, at, -1)
	}
	for k, o := range s.Objects {
		for _, i := range o.Readers {
			if o.Kind == api.Ring && o.Slots-2 < interfere.Writes(s, i, k, r[i]) {
				return verdict(api.ErrSize, i, k)
			}
			if (o.Kind == api.Seq || o.Kind == api.Cab) && o.Cap-1 < interfere.Fails(s, i, k, r[i]) {
				return verdict(api.ErrRetry, i, k)
			}
		}
	}
	return api.Verdict{E: api.OK, Task: -1, Object: -1, R: r}
}

// P40.2, held against its words; P40.3: each response is at most the deadline, and Fit changes nothing.
func TestPlainly(t *testing.T) {
	rnd := rand.New(rand.NewPCG(40, 3))
	met := map[api.Errno]int{}
	for range 3000 {
		s := crowd(rnd)
		if rnd.IntN(20) == 0 {
			s.Tasks[0].Own = 0
		}
		want := plainly(s)
		says(t, "plainly", s, want)
		met[want.E]++
		if want.E != api.OK {
			continue
		}
		for i, r := range want.R {
			if r > s.Tasks[i].Deadline || r < 1 {
				t.Fatalf("%v: %v", s, want)
			}
		}
		if fit, ok := size.Fit(s); !ok || !system.Same(fit, s) {
			t.Fatalf("%v: would not do: %v", s, fit)
		}
	}
	for _, e := range []api.Errno{api.OK, api.ErrArg, api.ErrRetry, api.ErrSize, api.ErrLate} {
		if met[e] < 30 {
			t.Error(met)
		}
	}
}
