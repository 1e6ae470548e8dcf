package rta_test

import (
	"math"
	"math/rand/v2"
	"slices"
	"testing"

	"coxswain/abstract"
	"coxswain/api"
	"coxswain/demand"
	"coxswain/interfere"
	"coxswain/release"
	"coxswain/rta"
	"coxswain/system"
	"coxswain/task"
	"coxswain/word"
)

// instr is an instruction.
type instr = api.Instr

// takes is a program of so many steps.
func takes(steps int) []instr {
	return append(make([]instr, steps-1), instr{Op: api.Done})
}

// plain is a periodic task of so many steps.
func plain(prio, period, steps int) api.Task {
	return api.Task{Kind: api.Periodic, Prio: prio, Period: period, Deadline: period, Own: 2, Code: takes(steps)}
}

// apart is a system of tasks that share nothing.
func apart(l ...api.Task) api.System { return api.System{Tasks: l} }

// shared is a system of a task that reads an object of the kind, and one that writes it and goes ahead; a third one, that goes ahead of both.
func shared(kind int) api.System {
	o := api.Object{Kind: kind, Width: 2, Cap: 3, Init: []uint32{1, 2}, Writer: 1, Readers: []int{0}}
	switch kind {
	case api.Ring:
		o.Slots = 3
	case api.Cab:
		o.Slots = 4
	}
	s := apart(plain(1, 200, 3), plain(2, 20, 3), plain(3, 7, 1))
	s.Tasks[0].Code[1] = instr{Op: api.Read}
	s.Tasks[1].Code[1] = instr{Op: api.Write}
	s.Objects = []api.Object{o}
	return s
}

// P38.2: what a job takes, and what those take that go ahead.
func TestLoad(t *testing.T) {
	s := apart(plain(1, 100, 9), plain(2, 10, 4), plain(1, 30, 2), plain(2, 25, 6))
	costs := []int{9, 4, 2, 6}
	for _, c := range []struct{ i, r, want int }{
		{1, 1, 4}, {1, 100, 4}, {3, 1, 10}, {3, 10, 10}, {3, 11, 14}, {3, 100, 46}, {0, 1, 19}, {0, 25, 27}, {0, 26, 33}, {2, 1, 2 + 9 + 4 + 6}, {2, 101, 2 + 18 + 44 + 30},
		{0, 0, 9}, {0, -1, 9}, {2, math.MinInt, 2}, {-1, 50, 0}, {4, 50, 0}, {math.MinInt, 1, 0}, {math.MaxInt, 1, 0},
	} {
		if got := rta.Load(s, c.i, c.r, costs); got != c.want {
			t.Errorf("task %d, %d ticks: %d, not %d", c.i, c.r, got, c.want)
		}
	}
	// Costs that are not there, or below 0, are 0; that of whoever goes behind, or is the task itself, does not count.
	for _, c := range []struct {
		costs []int
		want  int
	}{{nil, 2}, {[]int{5}, 7}, {[]int{5, 4}, 19}, {[]int{5, 4, 77}, 19}, {[]int{5, 4, 77, 1}, 20}, {[]int{5, -4, 77, 1}, 8}, {[]int{math.MinInt, 4, -1, 1, 99, 99}, 15}} {
		if got := rta.Load(s, 2, 25, c.costs); got != c.want {
			t.Errorf("%v: %d, not %d", c.costs, got, c.want)
		}
	}
	// What passes Top is Top.
	if got := rta.Load(s, 2, math.MaxInt, costs); got != api.Top {
		t.Error(got)
	}
	if got := rta.Load(s, 2, 1, []int{math.MaxInt, math.MaxInt, 0, math.MaxInt}); got != api.Top {
		t.Error(got)
	}
	if rta.Load(api.System{}, 0, 1, costs) != 0 {
		t.Error("nothing")
	}
}

// P38.2: with reads that others spoil, and with a period, or a program, that may not be.
func TestLoadSpoilt(t *testing.T) {
	for kind, want := range map[int]int{api.Seq: 6 + 2*4, api.Ring: 6 + 4, api.Cab: 8 + 2*3} {
		s := shared(kind)
		if got := rta.Load(s, 0, 22, []int{0, 7, 1}); got != want+2*7+4 {
			t.Errorf("kind %d: %d, not %d", kind, got, want+2*7+4)
		}
		s.Tasks[1].Period = 0
		if got, job := rta.Load(s, 0, 22, []int{0, 7, 1}), interfere.Job(s, 0, 0); got != job+4 {
			t.Errorf("kind %d, without a period: %d", kind, got)
		}
		s.Tasks[0].Code = nil
		if got := rta.Load(s, 0, 22, []int{0, 7, 1}); got != 4 {
			t.Errorf("kind %d, without a program: %d", kind, got)
		}
	}
}

// responseOf is what Response tells.
func responseOf(s api.System, i int, costs []int) [2]int {
	r, e := rta.Response(s, i, costs)
	return [2]int{r, int(e)}
}

// P38.3: the least one, up to the deadline; 0 and the error of others.
func TestResponse(t *testing.T) {
	s := apart(plain(1, 40, 5), plain(2, 10, 4), plain(0, 1, 1))
	costs := []int{5, 4}
	for _, c := range []struct {
		name        string
		i, deadline int
		want        [2]int
	}{
		{"who goes ahead", 1, 10, [2]int{4, 0}},
		{"just in time", 1, 4, [2]int{4, 0}},
		{"late by one", 1, 3, [2]int{0, int(api.ErrLate)}},
		{"who goes behind", 0, 40, [2]int{9, 0}},
		{"who goes behind, just in time", 0, 9, [2]int{9, 0}},
		{"who goes behind, late by one", 0, 8, [2]int{0, int(api.ErrLate)}},
		{"no time", 1, 0, [2]int{0, int(api.ErrLate)}},
		{"less than no time", 1, math.MinInt, [2]int{0, int(api.ErrLate)}},
		{"no task", -1, 0, [2]int{0, int(api.ErrArg)}},
		{"no task of this number", 3, 0, [2]int{0, int(api.ErrArg)}},
		{"no task of the greatest number", math.MaxInt, 0, [2]int{0, int(api.ErrArg)}},
		{"no task of the least number", math.MinInt, 0, [2]int{0, int(api.ErrArg)}},
	} {
		x := system.Copy(s)
		if c.i >= 0 && c.i < 3 {
			x.Tasks[c.i].Deadline = c.deadline
		}
		if got := responseOf(x, c.i, costs); got != c.want {
			t.Errorf("%s: %v, not %v", c.name, got, c.want)
		}
	}
	// Of a program that may not be a job takes nothing, in no ticks.
	s.Tasks[2].Code = nil
	if got := responseOf(s, 2, nil); got != [2]int{} {
		t.Error(got)
	}
	if got := responseOf(s, 2, []int{0, 1}); got != [2]int{1, 0} {
		t.Error(got)
	}
	if got := responseOf(api.System{}, 0, nil); got != [2]int{0, int(api.ErrArg)} {
		t.Error(got)
	}
}

// P38.3: behind 10000 changes it is over, but what is asked of r is asked once more ahead of that.
func TestRounds(t *testing.T) {
	// Whoever goes ahead takes all ticks: r is greater by 1 with each change.
	s := apart(plain(1, api.MaxPeriod, 1), plain(2, 1, 1))
	for deadline, want := range map[int]api.Errno{1: api.ErrLate, 9999: api.ErrLate, 10000: api.ErrLate, 10001: api.ErrOver, 10002: api.ErrOver, api.MaxPeriod: api.ErrOver, math.MaxInt: api.ErrOver} {
		s.Tasks[0].Deadline = deadline
		if got := responseOf(s, 0, []int{0, 1}); got != [2]int{0, int(want)} {
			t.Errorf("deadline %d: %v, not %d", deadline, got, want)
		}
	}
}

// stairs is a system in which the response of task 0 is found behind just so many changes (from 9985 up to 10009), and the costs with that: the job has so many steps, task 1 leaves it one tick of each 16384, and each change reaches into the next such tick.
func stairs(changes int) (api.System, []int) {
	const period, row = 16384, 39
	s := apart(plain(1, period, 1), plain(2, period, 1))
	loop := append(make([]instr, row-1), instr{Op: api.Back, C: 255})
	s.Tasks[0].Code = append(loop, takes(changes-256*row)...)
	s.Tasks[0].Deadline = math.MaxInt
	return s, []int{0, period - 1}
}

// P38.3: a response that is found behind just so many changes, and one that is not.
func TestLastRound(t *testing.T) {
	for _, n := range []int{9985, 9998, 9999, 10000} {
		s, costs := stairs(n)
		if got := responseOf(s, 0, costs); got != [2]int{n * 16384, 0} {
			t.Errorf("%d changes: %v", n, got)
		}
		s.Tasks[0].Deadline = n * 16384
		if got := responseOf(s, 0, costs); got != [2]int{n * 16384, 0} {
			t.Errorf("%d changes, just in time: %v", n, got)
		}
		s.Tasks[0].Deadline--
		if got := responseOf(s, 0, costs); got != [2]int{0, int(api.ErrLate)} {
			t.Errorf("%d changes, late by one: %v", n, got)
		}
	}
	for _, n := range []int{10001, 10002, 10009} {
		s, costs := stairs(n)
		if got := responseOf(s, 0, costs); got != [2]int{0, int(api.ErrOver)} {
			t.Errorf("%d changes: %v", n, got)
		}
		// What r is behind 10000 changes.
		s.Tasks[0].Deadline = n + 10000*costs[1]
		if got := responseOf(s, 0, costs); got != [2]int{0, int(api.ErrOver)} {
			t.Errorf("%d changes, in time so far: %v", n, got)
		}
		s.Tasks[0].Deadline--
		if got := responseOf(s, 0, costs); got != [2]int{0, int(api.ErrLate)} {
			t.Errorf("%d changes, late by one: %v", n, got)
		}
	}
}

// all is what All tells.
func all(s api.System) (l [2][]int, at int, e api.Errno) {
	responses, costs, at, e := rta.All(s)
	return [2][]int{responses, costs}, at, e
}

// same tells whether All tells these responses and costs, or none, this task, and this error.
func same(t *testing.T, name string, s api.System, responses, costs []int, at int, e api.Errno) {
	t.Helper()
	l, gotAt, gotE := all(s)
	if !slices.Equal(l[0], responses) || !slices.Equal(l[1], costs) || gotAt != at || gotE != e {
		t.Errorf("%s: %v, %d, %d", name, l, gotAt, gotE)
	}
}

// P38.4: the tasks come as they go ahead of one another, whatever their numbers are; the first one of these that is late is told, and nothing else.
func TestAll(t *testing.T) {
	s := apart(plain(1, 40, 5), plain(2, 10, 4))
	same(t, "the example", s, []int{9, 4}, []int{5, 4}, -1, api.OK)
	s.Tasks[0].Prio = 2
	same(t, "of one priority", s, []int{5, 9}, []int{5, 4}, -1, api.OK)
	same(t, "three", apart(plain(5, 30, 3), plain(9, 10, 2), plain(7, 30, 4)), []int{9, 2, 6}, []int{3, 2, 4}, -1, api.OK)
	same(t, "nobody", api.System{}, nil, nil, -1, api.OK)
	same(t, "nobody, but an object", api.System{Objects: make([]api.Object, 1)}, nil, nil, -1, api.OK)

	s = apart(plain(1, 40, 41), plain(2, 10, 4), plain(3, 10, 11), plain(4, 10, 1))
	same(t, "two are late", s, nil, nil, 2, api.ErrLate)
	s.Tasks[2].Code = takes(5)
	same(t, "one is late", s, nil, nil, 0, api.ErrLate)
	s.Tasks[3].Deadline = 0
	same(t, "one has no time", s, nil, nil, 3, api.ErrLate)
	same(t, "it is over", apart(plain(1, api.MaxPeriod, 1), plain(2, 1, 1)), nil, nil, 0, api.ErrOver)
	same(t, "it is over, and somebody behind is late", apart(plain(0, 1, 2), plain(1, api.MaxPeriod, 1), plain(2, 1, 1)), nil, nil, 1, api.ErrOver)

	s = apart(plain(1, 40, 5), plain(2, 10, 4))
	s.Tasks[1].Code = nil
	same(t, "of no program", s, []int{5, 0}, []int{5, 0}, -1, api.OK)
}

// P38.4: the costs are those of the responses, with the attempts that fail in them.
func TestAllSpoilt(t *testing.T) {
	// In 20 ticks there is one write, that spoils an attempt of seq, but none of a ring of three slots; in 33 ticks there are two.
	same(t, "seq", shared(api.Seq), []int{20, 9, 1}, []int{6 + 4, 7, 1}, -1, api.OK)
	same(t, "ring", shared(api.Ring), []int{14, 7, 1}, []int{6, 6, 1}, -1, api.OK)
	same(t, "cab", shared(api.Cab), []int{33, 9, 1}, []int{8 + 2*3, 7, 1}, -1, api.OK)
	for _, kind := range []int{api.Seq, api.Ring, api.Cab} {
		s := shared(kind)
		responses, costs, _, _ := rta.All(s)
		for i, r := range responses {
			if interfere.Job(s, i, r) != costs[i] || rta.Load(s, i, r, costs) != r {
				t.Errorf("kind %d, task %d: %v, %v", kind, i, responses, costs)
			}
		}
	}
}

// some picks one of the items.
func some[T any](rnd *rand.Rand, l ...T) T { return l[rnd.IntN(len(l))] }

// crowd is a system of several tasks, some of which share an object, that may be in time, or not.
func crowd(rnd *rand.Rand) api.System {
	var s api.System
	for range 1 + rnd.IntN(5) {
		x := plain(rnd.IntN(4), some(rnd, 12, 20, 35, 60, 100, 1000), 2+rnd.IntN(6))
		x.Kind = 1 + rnd.IntN(2)
		x.Deadline -= rnd.IntN(6)
		for at := range len(x.Code) - 1 {
			x.Code[at].Op = some(rnd, api.Nop, api.Nop, api.Nop, api.Read, api.Write)
		}
		s.Tasks = append(s.Tasks, x)
	}
	o := shared(some(rnd, api.Seq, api.Ring, api.Cab)).Objects[0]
	users := rnd.Perm(5)
	o.Writer, o.Readers = users[0], users[1:3]
	s.Objects = []api.Object{o}
	return s
}

// loadPlainly is what P38.2 says, word by word.
func loadPlainly(s api.System, i, r int, costs []int) int {
	n := interfere.Job(s, i, r)
	for a := range s.Tasks {
		if task.Ahead(s.Tasks, a, i) && a < len(costs) {
			n = word.Add(n, word.Mul(costs[a], word.Ceil(r, s.Tasks[a].Period)))
		}
	}
	return n
}

// responsePlainly is what P38.3 says, likewise.
func responsePlainly(s api.System, i int, costs []int) (int, api.Errno) {
	r := 1
	for changes := 0; ; changes++ {
		switch {
		case r > s.Tasks[i].Deadline:
			return 0, api.ErrLate
		case loadPlainly(s, i, r, costs) == r:
			return r, api.OK
		case changes == api.MaxRounds:
			return 0, api.ErrOver
		}
		r = loadPlainly(s, i, r, costs)
	}
}

// P38.2 to P38.5: held against the chapter's words, for costs of all kinds.
func TestPlainly(t *testing.T) {
	rnd := rand.New(rand.NewPCG(38, 3))
	in, late := 0, 0
	for range 2000 {
		s := crowd(rnd)
		was := system.Copy(s)
		var costs []int
		for range rnd.IntN(len(s.Tasks) + 2) {
			costs = append(costs, some(rnd, -3, 0, 1, 2, 3, 5, 9))
		}
		given := slices.Clone(costs)
		for i := range s.Tasks {
			for _, r := range []int{-1, 0, 1, 12, 13, 61, 99999} {
				if got, want := rta.Load(s, i, r, costs), loadPlainly(s, i, r, costs); got != want {
					t.Fatalf("%v, task %d, %d ticks, %v: %d, not %d", s, i, r, costs, got, want)
				}
			}
			r, e := rta.Response(s, i, costs)
			if want, wrong := responsePlainly(s, i, costs); r != want || e != wrong {
				t.Fatalf("%v, task %d, %v: %d, %d, not %d, %d", s, i, costs, r, e, want, wrong)
			}
			if e != api.OK {
				late++
				continue
			}
			in++
			held(t, s, i, r, costs)
		}
		if !system.Same(s, was) || !slices.Equal(costs, given) {
			t.Fatal(s, was, costs, given)
		}
	}
	if in < 1000 || late < 200 {
		t.Error(in, late)
	}
}

// held holds a response to P38.5: it is the least r of which Load is no more, at least what the job takes, and no less for greater costs.
func held(t *testing.T, s api.System, i, r int, costs []int) {
	t.Helper()
	for less := range r {
		if rta.Load(s, i, less, costs) <= less {
			t.Fatalf("%v, task %d, %v: %d, but %d would do", s, i, costs, r, less)
		}
	}
	clean, _ := demand.Clean(s, i)
	if rta.Load(s, i, r, costs) != r || r < clean || r < interfere.Job(s, i, r) || r > s.Tasks[i].Deadline {
		t.Fatalf("%v, task %d, %v: %d", s, i, costs, r)
	}
	more := make([]int, len(s.Tasks))
	copy(more, costs)
	for a := range more {
		more[a] = max(more[a], 0) + a%2
	}
	if greater, e := rta.Response(s, i, more); e == api.OK && greater < r {
		t.Fatalf("%v, task %d: %d for %v, but %d for %v", s, i, r, costs, greater, more)
	}
}

// allPlainly is what P38.4 says: task by task, as they go ahead.
func allPlainly(s api.System) (responses, costs []int, at int, e api.Errno) {
	responses, costs = make([]int, len(s.Tasks)), make([]int, len(s.Tasks))
	for rank := range s.Tasks {
		i := slices.Index(task.Ranks(s.Tasks), rank)
		r, e := responsePlainly(s, i, costs)
		if e != api.OK {
			return nil, nil, i, e
		}
		responses[i], costs[i] = r, interfere.Job(s, i, r)
	}
	return responses, costs, -1, api.OK
}

// P38.4: held against the chapter's words. P5: whoever goes behind changes nothing of those that go ahead of it.
func TestAllPlainly(t *testing.T) {
	rnd := rand.New(rand.NewPCG(38, 4))
	in := 0
	for range 2000 {
		s := crowd(rnd)
		responses, costs, at, e := allPlainly(s)
		same(t, "plainly", s, responses, costs, at, e)
		if e != api.OK {
			continue
		}
		in++
		x := system.Copy(s)
		last := slices.Index(task.Ranks(s.Tasks), len(s.Tasks)-1)
		x.Tasks[last].Period, x.Tasks[last].Deadline, x.Tasks[last].Code = 5000, 5000, takes(50)
		l, _, e := all(x)
		for i := range s.Tasks {
			if e != api.OK || i != last && s.Objects[0].Writer != last && (l[0][i] != responses[i] || l[1][i] != costs[i]) {
				t.Fatalf("%v: %v, with another task %d %v, %d", s, responses, last, l, e)
			}
		}
	}
	if in < 200 {
		t.Error(in)
	}
}

// asks is that all sporadic tasks are asked for as often as they may be.
func asks(s api.System, ticks int) []api.Due {
	var l []api.Due
	for i, x := range s.Tasks {
		for at := 0; at < ticks && x.Kind == api.Sporadic; at += x.Period {
			l = append(l, api.Due{At: at, Task: i})
		}
	}
	return l
}

// P3: of tasks that share nothing a response is the least that can be told: a job that is released with all others takes as long; no job takes longer.
func TestLeast(t *testing.T) {
	const ticks = 3000
	rnd := rand.New(rand.NewPCG(3, 38))
	in := 0
	for range 300 {
		s := crowd(rnd)
		s.Objects = nil
		responses, _, _, e := rta.All(s)
		if e != api.OK {
			continue
		}
		in++
		demands := make([][]int, len(s.Tasks))
		for i, x := range s.Tasks {
			demands[i] = slices.Repeat([]int{len(x.Code)}, ticks)
		}
		let, _ := release.All(s.Tasks, asks(s, ticks), ticks)
		jobs := abstract.Jobs(s.Tasks, let, demands, ticks)
		for i, want := range responses {
			if got, _ := abstract.Response(jobs, i); got != want {
				t.Fatalf("%v, task %d: took %d, told %d", s, i, got, want)
			}
		}
		if len(abstract.Overs(s.Tasks, let, demands, ticks)) > 0 || slices.ContainsFunc(jobs, func(j api.Job) bool { return j.Missed }) {
			t.Fatalf("%v: somebody is late", s)
		}
		// With other offsets no job takes longer.
		for i := range s.Tasks {
			if s.Tasks[i].Kind == api.Periodic {
				s.Tasks[i].Offset = rnd.IntN(40)
			}
		}
		let, _ = release.All(s.Tasks, asks(s, ticks), ticks)
		jobs = abstract.Jobs(s.Tasks, let, demands, ticks)
		for i, want := range responses {
			if got, _ := abstract.Response(jobs, i); got > want {
				t.Fatalf("%v, task %d: took %d, told %d", s, i, got, want)
			}
		}
	}
	if in < 50 {
		t.Error(in)
	}
}

// P38.1: what is told shares nothing.
func TestApart(t *testing.T) {
	s := shared(api.Seq)
	responses, costs, _, _ := rta.All(s)
	clear(costs)
	if slices.Contains(responses, 0) {
		t.Error("both lists stand in one memory")
	}
	clear(responses)
	if l, _, _ := all(s); slices.Contains(l[0], 0) || slices.Contains(l[1], 0) {
		t.Error(l)
	}
}

// P38.3: a search that is over ends soon, of long programs and many objects, too.
func TestLongSearch(t *testing.T) {
	s := apart(plain(2, api.MaxPeriod, 1), plain(1, api.MaxPeriod, 1), plain(3, 1, 1))
	var reads, writes []instr
	for k := range api.MaxObjects {
		s.Objects = append(s.Objects, api.Object{Kind: api.Cab, Width: 1, Slots: 16, Cap: 1, Init: []uint32{0}, Writer: 0, Readers: []int{1}})
		for range 7 {
			reads = append(reads, instr{Op: api.Read, B: k})
			writes = append(writes, instr{Op: api.Write, B: k})
		}
	}
	s.Tasks[0].Code = append(writes, takes(8)...)
	s.Tasks[1].Code = append(reads, takes(8)...)
	s.Tasks[1].Deadline = math.MaxInt
	if got := responseOf(s, 1, []int{4, 0, 1}); got != [2]int{0, int(api.ErrOver)} {
		t.Error(got)
	}
}
