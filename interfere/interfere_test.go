package interfere_test

import (
	"math"
	"math/rand/v2"
	"testing"

	"coxswain/api"
	"coxswain/bound"
	"coxswain/demand"
	"coxswain/interfere"
	"coxswain/system"
	"coxswain/task"
	"coxswain/word"
)

// instr is an instruction.
type instr = api.Instr

// kinds is an object of each kind, of two words; task 1 writes it, 0 reads it.
func kinds() map[int]api.Object {
	first := []uint32{1, 2}
	return map[int]api.Object{
		api.Four: {Kind: api.Four, Width: 2, Init: first, Writer: 1, Readers: []int{0}},
		api.Chen: {Kind: api.Chen, Width: 2, Init: first, Writer: 1, Readers: []int{0}},
		api.Seq:  {Kind: api.Seq, Width: 2, Cap: 3, Init: first, Writer: 1, Readers: []int{0}},
		api.Ring: {Kind: api.Ring, Width: 2, Slots: 3, Cap: 3, Init: first, Writer: 1, Readers: []int{0}},
		api.Cab:  {Kind: api.Cab, Width: 2, Slots: 4, Cap: 3, Init: first, Writer: 1, Readers: []int{0}},
		api.Fifo: {Kind: api.Fifo, Width: 2, Slots: 3, Writer: 1, Readers: []int{0}},
	}
}

// pair is a system of the object, of task 0, that reads it twice, and task 1, that writes it three times each 10 ticks, and goes ahead, if so.
func pair(o api.Object, ahead bool) api.System {
	read, write := instr{Op: api.Read}, instr{Op: api.Write}
	if o.Kind == api.Fifo {
		read, write = instr{Op: api.Take}, instr{Op: api.Put}
	}
	done := instr{Op: api.Done}
	s := api.System{Tasks: []api.Task{
		{Kind: api.Periodic, Prio: 3, Period: 90, Deadline: 90, Own: 4, Code: []instr{read, read, done}},
		{Kind: api.Sporadic, Prio: 2, Period: 10, Deadline: 10, Own: 4, Code: []instr{write, write, write, done}},
	}, Objects: []api.Object{o}}
	if ahead {
		s.Tasks[1].Prio = 4
	}
	return s
}

// P37.2, P37.3: each kind, with a writer that goes ahead and one that does not.
func TestKinds(t *testing.T) {
	for kind, want := range map[int]struct {
		hopeless           bool // of a writer that does not go ahead
		writes, fails, job int  // in 25 ticks, of one that goes ahead
	}{
		api.Four: {false, 9, 0, 11},
		api.Chen: {false, 9, 0, 13},
		api.Seq:  {true, 9, 9, 9 + 9*4},
		api.Ring: {false, 9, 4, 9 + 4*4},
		api.Cab:  {false, 9, 9, 13 + 9*3},
		api.Fifo: {false, 0, 0, 11},
	} {
		s := pair(kinds()[kind], true)
		if _, e := system.Check(s); e != api.OK {
			t.Fatal(kind, e)
		}
		if interfere.Hopeless(s, 0, 0) || interfere.Writes(s, 0, 0, 25) != want.writes || interfere.Fails(s, 0, 0, 25) != want.fails || interfere.Job(s, 0, 25) != want.job {
			t.Errorf("kind %d, ahead: %t, %d, %d, %d, not %v", kind, interfere.Hopeless(s, 0, 0), interfere.Writes(s, 0, 0, 25), interfere.Fails(s, 0, 0, 25), interfere.Job(s, 0, 25), want)
		}
		s = pair(kinds()[kind], false)
		clean, _ := demand.Clean(s, 0)
		if interfere.Hopeless(s, 0, 0) != want.hopeless || interfere.Writes(s, 0, 0, 25) != 0 || interfere.Fails(s, 0, 0, 25) != 0 || interfere.Job(s, 0, 25) != clean {
			t.Errorf("kind %d, behind: %t, %d, %d, %d", kind, interfere.Hopeless(s, 0, 0), interfere.Writes(s, 0, 0, 25), interfere.Fails(s, 0, 0, 25), interfere.Job(s, 0, 25))
		}
		// Whoever writes does not read.
		if clean, _ = demand.Clean(s, 1); interfere.Hopeless(s, 1, 0) || interfere.Writes(s, 1, 0, 25) != 0 || interfere.Fails(s, 1, 0, 25) != 0 || interfere.Job(s, 1, 25) != clean {
			t.Errorf("kind %d: the writer reads", kind)
		}
	}
}

// P37.2: as often as releases may come in so many ticks.
func TestTicks(t *testing.T) {
	s := pair(kinds()[api.Seq], true)
	for r, want := range map[int]int{math.MinInt: 0, -1: 0, 0: 0, 1: 3, 9: 3, 10: 3, 11: 6, 20: 6, 21: 9, 1 << 20: 3 * 104858, math.MaxInt: api.Top} {
		if got := interfere.Writes(s, 0, 0, r); got != want {
			t.Errorf("%d ticks: %d, not %d", r, got, want)
		}
		if got := interfere.Fails(s, 0, 0, r); got != want {
			t.Errorf("%d ticks: %d fails, not %d", r, got, want)
		}
		if got, job := interfere.Job(s, 0, r), min(9+4*want, api.Top); got != job {
			t.Errorf("%d ticks: %d, not %d", r, got, job)
		}
	}
	// Of one priority the lesser number goes ahead: here whoever reads.
	s.Tasks[1].Prio = s.Tasks[0].Prio
	if !interfere.Hopeless(s, 0, 0) || interfere.Writes(s, 0, 0, 25) != 0 {
		t.Error("one priority, the writer behind")
	}
	s.Tasks[0], s.Tasks[1] = s.Tasks[1], s.Tasks[0]
	s.Objects[0].Writer, s.Objects[0].Readers[0] = 0, 1
	if interfere.Hopeless(s, 1, 0) || interfere.Writes(s, 1, 0, 25) != 9 {
		t.Error("one priority, the writer ahead")
	}
	for _, period := range []int{0, -1, math.MinInt} {
		if s.Tasks[0].Period = period; interfere.Writes(s, 1, 0, 25) != 0 || interfere.Hopeless(s, 1, 0) {
			t.Error("period", period)
		}
	}
}

// P37.2: the fails of a ring, by its slots.
func TestSlots(t *testing.T) {
	s := pair(kinds()[api.Ring], true)
	for slots, want := range map[int]int{2: 9, 3: 4, 4: 3, 5: 2, 9: 1, 10: 1, 11: 0, 16: 0, 17: 0, math.MaxInt: 0, 1: 9, 0: 9, -1: 9, math.MinInt: 9} {
		s.Objects[0].Slots = slots
		if got := interfere.Fails(s, 0, 0, 25); got != want {
			t.Errorf("%d slots: %d, not %d", slots, got, want)
		}
		if interfere.Writes(s, 0, 0, 25) != 9 {
			t.Errorf("%d slots: %d writes", slots, interfere.Writes(s, 0, 0, 25))
		}
	}
}

// P37, Words: who reads what.
func TestReads(t *testing.T) {
	read, write, take, done := instr{Op: api.Read}, instr{Op: api.Write}, instr{Op: api.Take}, instr{Op: api.Done}
	for _, c := range []struct {
		name   string
		change func(s *api.System)
		reads  bool
	}{
		{"as it is", func(s *api.System) {}, true},
		{"one of two readers", func(s *api.System) { s.Objects[0].Readers = []int{7, 0} }, true},
		{"no reader", func(s *api.System) { s.Objects[0].Readers = []int{2} }, false},
		{"no readers", func(s *api.System) { s.Objects[0].Readers = nil }, false},
		{"writer and reader", func(s *api.System) { s.Objects[0].Writer = 0 }, false},
		{"no kind", func(s *api.System) { s.Objects[0].Kind = 7 }, false},
		{"a queue", func(s *api.System) { s.Objects[0].Kind = api.Fifo }, false},
		{"no read in the program", func(s *api.System) { s.Tasks[0].Code = []instr{done} }, false},
		{"a take in the program", func(s *api.System) { s.Tasks[0].Code = []instr{take, done} }, true},
		{"a write in the program", func(s *api.System) { s.Tasks[0].Code = []instr{write, done} }, false},
		{"a read of another object", func(s *api.System) { s.Tasks[0].Code = []instr{{Op: api.Read, B: 1}, done} }, false},
		{"a read that is never come to", func(s *api.System) { s.Tasks[0].Code = []instr{{Op: api.Jump, N: 2}, read, done} }, false},
		{"a read on one of the ways", func(s *api.System) { s.Tasks[0].Code = []instr{{Op: api.Zero, N: 2}, read, done} }, true},
		{"a program that may not be", func(s *api.System) { s.Tasks[0].Code = []instr{read} }, false},
		{"no object", func(s *api.System) { s.Objects = nil }, false},
	} {
		s := pair(kinds()[api.Seq], true)
		c.change(&s)
		if got := interfere.Writes(s, 0, 0, 25) == 9; got != c.reads || !got && interfere.Writes(s, 0, 0, 25) != 0 {
			t.Errorf("%s: %d writes", c.name, interfere.Writes(s, 0, 0, 25))
		}
		if (interfere.Fails(s, 0, 0, 25) > 0) != c.reads || interfere.Hopeless(s, 0, 0) {
			t.Errorf("%s: %d fails, %t", c.name, interfere.Fails(s, 0, 0, 25), interfere.Hopeless(s, 0, 0))
		}
		s = pair(kinds()[api.Seq], false)
		c.change(&s)
		if interfere.Hopeless(s, 0, 0) != c.reads || interfere.Writes(s, 0, 0, 25) != 0 {
			t.Errorf("%s: hopeless: %t", c.name, interfere.Hopeless(s, 0, 0))
		}
	}
	for _, n := range []int{-1, 2, math.MinInt, math.MaxInt} {
		s := pair(kinds()[api.Seq], true)
		if interfere.Writes(s, n, 0, 25) != 0 || interfere.Writes(s, 0, n, 25) != 0 || interfere.Fails(s, n, n, 25) != 0 || interfere.Job(s, n, 25) != 0 || interfere.Hopeless(s, n, 0) || interfere.Hopeless(s, 0, n) {
			t.Errorf("number %d", n)
		}
	}
}

// P37.2: a writer that is no task does not go ahead; one that never writes, or whose program may not be, does, but spoils nothing.
func TestWriters(t *testing.T) {
	for _, writer := range []int{2, -1, math.MaxInt, math.MinInt} {
		s := pair(kinds()[api.Seq], true)
		s.Objects[0].Writer = writer
		if !interfere.Hopeless(s, 0, 0) || interfere.Writes(s, 0, 0, 25) != 0 || interfere.Fails(s, 0, 0, 25) != 0 {
			t.Errorf("writer %d: %t, %d", writer, interfere.Hopeless(s, 0, 0), interfere.Writes(s, 0, 0, 25))
		}
	}
	for _, code := range [][]instr{nil, {{Op: api.Done}}, {{Op: api.Write}}, {{Op: api.Read}, {Op: api.Done}}} {
		s := pair(kinds()[api.Seq], true)
		s.Tasks[1].Code = code
		if interfere.Hopeless(s, 0, 0) || interfere.Writes(s, 0, 0, 25) != 0 || interfere.Job(s, 0, 25) != 9 {
			t.Errorf("%v: %t, %d, %d", code, interfere.Hopeless(s, 0, 0), interfere.Writes(s, 0, 0, 25), interfere.Job(s, 0, 25))
		}
		s = pair(kinds()[api.Seq], false)
		s.Tasks[1].Code = code
		if !interfere.Hopeless(s, 0, 0) {
			t.Errorf("%v: not hopeless", code)
		}
	}
}

// P37.3: of several objects all fails count; if the job's program may not be it takes nothing.
func TestJob(t *testing.T) {
	s := pair(kinds()[api.Seq], true)
	for _, kind := range []int{api.Ring, api.Cab, api.Four} {
		s.Objects = append(s.Objects, kinds()[kind])
	}
	s.Tasks[0].Code = []instr{{Op: api.Read, B: 0}, {Op: api.Read, B: 1}, {Op: api.Read, B: 2}, {Op: api.Read, B: 3}, {Op: api.Done}}
	s.Tasks[1].Code = []instr{{Op: api.Write, B: 0}, {Op: api.Write, B: 1}, {Op: api.Write, B: 1}, {Op: api.Write, B: 2}, {Op: api.Write, B: 3}, {Op: api.Done}}
	// Clean: 4, 4, 6 and 5 steps, and done; in 25 ticks three writes of seq, six of the ring, of which two spoil one attempt, three of cab.
	if got := interfere.Job(s, 0, 25); got != 20+3*4+3*4+3*3 {
		t.Error(got)
	}
	if got := interfere.Job(s, 0, 0); got != 20 {
		t.Error(got)
	}
	s.Tasks[0].Code = s.Tasks[0].Code[:4]
	if got := interfere.Job(s, 0, 25); got != 0 {
		t.Error(got)
	}
	if interfere.Job(api.System{}, 0, 25) != 0 {
		t.Error("nothing")
	}
}

// P37.1: sums and products are at most Top.
func TestTop(t *testing.T) {
	s := pair(kinds()[api.Cab], true)
	s.Tasks[1].Period = 1
	if interfere.Writes(s, 0, 0, api.Top/3) != api.Top-1 || interfere.Fails(s, 0, 0, api.Top/3) != api.Top-1 || interfere.Job(s, 0, api.Top/3) != api.Top {
		t.Error(interfere.Writes(s, 0, 0, api.Top/3), interfere.Job(s, 0, api.Top/3))
	}
	if interfere.Writes(s, 0, 0, api.Top/3+1) != api.Top || interfere.Fails(s, 0, 0, math.MaxInt) != api.Top || interfere.Job(s, 0, math.MaxInt) != api.Top {
		t.Error(interfere.Writes(s, 0, 0, api.Top), interfere.Job(s, 0, math.MaxInt))
	}
	// Two objects of which each one's fails take Top are Top together.
	s.Objects = append(s.Objects, s.Objects[0])
	s.Tasks[0].Code = []instr{{Op: api.Read, B: 1}, {Op: api.Read}, {Op: api.Done}}
	s.Tasks[1].Code = []instr{{Op: api.Write, B: 1}, {Op: api.Write}, {Op: api.Done}}
	if got := interfere.Job(s, 0, math.MaxInt); got != api.Top {
		t.Error(got)
	}
	// The ring divides what is Top already.
	s = pair(kinds()[api.Ring], true)
	if got := interfere.Fails(s, 0, 0, math.MaxInt); got != api.Top/2 {
		t.Error(got)
	}
}

// some picks one of the items.
func some[T any](rnd *rand.Rand, l ...T) T { return l[rnd.IntN(len(l))] }

// wild is a system of which much may be wrong.
func wild(rnd *rand.Rand) api.System {
	var s api.System
	for range some(rnd, 0, 2, 4, 4, 4, 5) {
		var code []instr
		for range some(rnd, 1, 3, 5, 7, 9) {
			code = append(code, instr{Op: some(rnd, api.Read, api.Read, api.Write, api.Write, api.Put, api.Take), B: some(rnd, 0, 0, 0, 1, 1, 3)})
		}
		if rnd.IntN(8) > 0 {
			if rnd.IntN(3) == 0 {
				code = append(code, instr{Op: api.Back, C: 1 + rnd.IntN(3)})
			}
			code = append(code, instr{Op: api.Done})
		}
		s.Tasks = append(s.Tasks, api.Task{Prio: rnd.IntN(3), Period: some(rnd, -1, 0, 1, 3, 7, 20, 50, 90, 1000, 1<<20), Deadline: rnd.IntN(60), Code: code})
	}
	for range some(rnd, 0, 1, 2, 2, 4) {
		o := api.Object{Kind: some(rnd, 0, 1, 2, 3, 3, 4, 4, 5, 5, 6, 7), Width: some(rnd, 1, 2, 2, 8), Slots: some(rnd, 0, 0, 0, 1, 2, 3, 4, -1, math.MinInt), Cap: some(rnd, 0, 1, 1, 2, 16), Writer: some(rnd, 0, 1, 2, -1), Readers: []int{rnd.IntN(3), rnd.IntN(3)}}
		if users := rnd.Perm(5); rnd.IntN(4) > 0 {
			o.Writer, o.Readers = users[0], users[1:1+rnd.IntN(4)]
		}
		o.Init = make([]uint32, o.Width)
		s.Objects = append(s.Objects, o)
	}
	return s
}

// plainly is what chapter 37 says, word by word.
func plainly(s api.System, i, k, r int) (hopeless bool, writes, fails int) {
	role, _ := system.Role(s, i, k)
	if role != api.OpRead || demand.Reads(s, i, k) < 1 {
		return false, 0, 0
	}
	o := s.Objects[k]
	ahead := task.Ahead(s.Tasks, o.Writer, i)
	if ahead {
		writes = word.Mul(demand.Writes(s, o.Writer, k), word.Ceil(r, s.Tasks[o.Writer].Period))
	}
	switch {
	case o.Kind == api.Seq, o.Kind == api.Cab:
		fails = writes
	case o.Kind == api.Ring && o.Slots < 2:
		fails = writes
	case o.Kind == api.Ring:
		fails = writes / (o.Slots - 1)
	}
	return o.Kind == api.Seq && !ahead, writes, fails
}

// jobPlainly is what P37.3 says, likewise.
func jobPlainly(s api.System, i, r int) int {
	n, e := demand.Clean(s, i)
	if e != api.OK {
		return 0
	}
	for k, o := range s.Objects {
		_, _, fails := plainly(s, i, k, r)
		n = word.Add(n, word.Mul(fails, bound.Fail(o, api.OpRead)))
	}
	return n
}

// ticks are numbers of ticks, rising.
var ticks = []int{math.MinInt, -1, 0, 1, 2, 3, 4, 7, 8, 20, 51, 1000, 1 << 20, 1 << 40, math.MaxInt}

// P37.2, P37.3: held against the chapter's words. P37.4: all of them are no less for a greater r. P37.1: what is handed in is not changed.
func TestWild(t *testing.T) {
	rnd := rand.New(rand.NewPCG(37, 2))
	spoilt := 0
	for range 3000 {
		s := wild(rnd)
		was := system.Copy(s)
		for i := -1; i <= len(s.Tasks); i++ {
			job := 0
			for _, r := range ticks {
				got := interfere.Job(s, i, r)
				if want := jobPlainly(s, i, r); got != want || got < job {
					t.Fatalf("%v, %d in %d ticks: %d, not %d", s, i, r, got, want)
				}
				job = got
			}
			for k := -1; k <= len(s.Objects); k++ {
				writes, fails := 0, 0
				for _, r := range ticks {
					hopeless, w, f := plainly(s, i, k, r)
					gotWrites, gotFails := interfere.Writes(s, i, k, r), interfere.Fails(s, i, k, r)
					if interfere.Hopeless(s, i, k) != hopeless || gotWrites != w || gotFails != f || gotWrites < writes || gotFails < fails {
						t.Fatalf("%v, %d, %d in %d ticks: %d, %d, not %d, %d", s, i, k, r, gotWrites, gotFails, w, f)
					}
					writes, fails = gotWrites, gotFails
				}
				if fails > 0 {
					spoilt++
				}
			}
		}
		if !system.Same(s, was) {
			t.Fatal(s, was)
		}
	}
	if spoilt < 150 {
		t.Error("few reads are spoilt:", spoilt)
	}
}
