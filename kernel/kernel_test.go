package kernel_test

import (
	"math"
	"math/rand/v2"
	"slices"
	"testing"

	"coxswain/api"
	"coxswain/kernel"
	"coxswain/release"
	"coxswain/task"
)

type (
	event = api.Event
	due   = api.Due
)

// periodic is a plain periodic task; its deadline is its period.
func periodic(prio, offset, period int) api.Task {
	return api.Task{Kind: api.Periodic, Prio: prio, Period: period, Offset: offset, Deadline: period, Own: 1}
}

// sporadic is a plain sporadic task; its deadline is its period.
func sporadic(prio, period int) api.Task {
	return api.Task{Kind: api.Sporadic, Prio: prio, Period: period, Deadline: period, Own: 1}
}

// made is a kernel of tasks.
func made(t *testing.T, l ...api.Task) *kernel.Kernel {
	t.Helper()
	k, e := kernel.New(l)
	if k == nil || e != api.OK {
		t.Fatalf("no kernel: %d", e)
	}
	return k
}

// come fails if other events came than these.
func come(t *testing.T, what string, l []event, want ...event) {
	t.Helper()
	if !slices.Equal(l, want) {
		t.Fatalf("%s:\n%v, not\n%v", what, l, want)
	}
}

// What comes, at a time, to a task.
func released(at, i, no int) event { return event{T: at, Kind: api.EvRelease, Task: i, A: no} }
func refused(at, i int) event      { return event{T: at, Kind: api.EvRefuse, Task: i} }
func over(at, i int) event         { return event{T: at, Kind: api.EvOver, Task: i} }
func missed(at, i, no int) event   { return event{T: at, Kind: api.EvMiss, Task: i, A: no} }
func step(at, i, no, b int) event  { return event{T: at, Kind: api.EvStep, Task: i, A: no, B: b} }
func idle(at int) event            { return event{T: at, Kind: api.EvIdle, Task: -1} }
func done(at, i, no, b int) event  { return event{T: at, Kind: api.EvDone, Task: i, A: no, B: b} }

// P29.1: a nil kernel has no ticks.
func TestNilKernel(t *testing.T) {
	var k *kernel.Kernel
	if len(k.Open([]int{0})) != 0 || len(k.Close(0, true)) != 0 || k.Now() != 0 || len(k.Jobs()) != 0 || len(k.Overs()) != 0 || k.Clone() != nil {
		t.Error("a nil kernel has something")
	}
	if i, ok := k.Pick(); i != 0 || ok {
		t.Error("Pick")
	}
}

// P29.2: New.
func TestNew(t *testing.T) {
	wrong := periodic(1, 0, 4)
	wrong.Own = 0
	eight := slices.Repeat([]api.Task{periodic(1, 0, 4)}, 8)
	for i, l := range [][]api.Task{nil, {}, {{}}, {wrong}, {wrong, eight[0]}, {eight[0], sporadic(1, 4), wrong}, append(slices.Clone(eight), eight[0]), append(slices.Clone(eight[:7]), wrong)} {
		if k, e := kernel.New(l); k != nil || e != api.ErrArg {
			t.Errorf("%d: %d", i, e)
		}
	}
	// Programs are not looked at.
	eight[0].Code = []api.Instr{{Op: 99}}
	k := made(t, eight...)
	if k.Now() != 0 || len(k.Jobs()) != 0 || len(k.Overs()) != 0 {
		t.Error("something came ahead of the first tick")
	}
	if i, ok := k.Pick(); i != 0 || ok {
		t.Error("somebody is picked though no tick is open")
	}
	if len(k.Close(0, true)) != 0 || k.Now() != 0 {
		t.Error("closed what was not open")
	}
	if l := k.Open(nil); len(l) != 8 {
		t.Error(l)
	}
}

// P29.2: the kernel keeps no tasks of the caller.
func TestKeepsItsOwn(t *testing.T) {
	l := []api.Task{periodic(1, 1, 4), sporadic(2, 3)}
	k := made(t, l...)
	l[0], l[1] = sporadic(9, 1), periodic(9, 0, 1)
	come(t, "opened", k.Open([]int{1}), released(0, 1, 0))
	k.Close(0, true)
	come(t, "opened", k.Open([]int{0, 1}), released(1, 0, 0), refused(1, 0), refused(1, 1))
}

// P29.3, P29.4: a tick is opened once, and closed once.
func TestOpenAndClose(t *testing.T) {
	k := made(t, periodic(1, 1, 2))
	for range 2 {
		come(t, "closed ahead of the first one", k.Close(7, true))
	}
	come(t, "opened", k.Open(nil))
	come(t, "opened twice", k.Open([]int{0, 5}))
	if i, ok := k.Pick(); i != 0 || ok || k.Now() != 0 {
		t.Error("nobody is ready")
	}
	come(t, "nobody's", k.Close(7, true), idle(0))
	come(t, "closed twice", k.Close(7, true))
	if i, ok := k.Pick(); i != 0 || ok || k.Now() != 1 {
		t.Error("Now, of the tick to come")
	}
	come(t, "opened", k.Open(nil), released(1, 0, 0))
	if i, ok := k.Pick(); i != 0 || !ok || k.Now() != 1 {
		t.Error("Pick, or Now")
	}
	come(t, "opened twice", k.Open(nil))
	come(t, "a step", k.Close(-7, false), step(1, 0, 0, -7))
	if _, ok := k.Pick(); ok {
		t.Error("somebody is picked though no tick is open")
	}
	k.Open(nil)
	come(t, "the last step", k.Close(math.MaxInt, true), step(2, 0, 0, math.MaxInt), done(2, 0, 0, 2))
	come(t, "the next one", k.Open(nil), released(3, 0, 1))
}

// P29.3: in one tick deadlines come first, then periodic tasks, then what is asked for, in its order.
func TestOrderOfEvents(t *testing.T) {
	late := sporadic(0, 4)
	late.Deadline = 2
	k := made(t, sporadic(0, 2), periodic(0, 2, 2), late, sporadic(3, 1), periodic(0, 0, 2))
	come(t, "at 0", k.Open([]int{2, 0, 3}), released(0, 4, 0), released(0, 2, 0), released(0, 0, 0), released(0, 3, 0))
	come(t, "at 0", k.Close(5, false), step(0, 3, 0, 5))
	come(t, "at 1", k.Open([]int{0, 2, 3, 1, 4, 5, -1, math.MinInt, 3}),
		missed(1, 3, 0), refused(1, 0), refused(1, 2), over(1, 3), refused(1, 1), refused(1, 4), refused(1, 5), refused(1, -1), refused(1, math.MinInt), refused(1, 3))
	come(t, "at 1", k.Close(6, true), step(1, 3, 0, 6), done(1, 3, 0, 2))
	come(t, "at 2", k.Open([]int{3, 2, 0}),
		missed(2, 0, 0), missed(2, 2, 0), missed(2, 4, 0), released(2, 1, 0), over(2, 4), released(2, 3, 1), refused(2, 2), over(2, 0))
	if !slices.Equal(k.Overs(), []due{{At: 1, Task: 3}, {At: 2, Task: 4}, {At: 2, Task: 0}}) {
		t.Error(k.Overs())
	}
	var order []int
	for _, j := range k.Jobs() {
		order = append(order, j.Task)
	}
	if !slices.Equal(order, []int{4, 2, 0, 3, 1, 3}) {
		t.Error(k.Jobs())
	}
}

// P29.3: a release that is let through counts, also when it comes over; one that is refused does not.
func TestLetThrough(t *testing.T) {
	k := made(t, sporadic(1, 3))
	want := [][]event{{released(0, 0, 0), refused(0, 0)}, nil, {refused(2, 0)}, {missed(3, 0, 0), over(3, 0)}, nil, {refused(5, 0)}, {released(6, 0, 1)}}
	asks := [][]int{{0, 0}, nil, {0}, {0}, nil, {0}, {0}}
	for tick := range want {
		come(t, "opened", k.Open(asks[tick]), want[tick]...)
		k.Close(0, tick == 4)
	}
}

// P29.4: who goes ahead has the steps.
func TestPick(t *testing.T) {
	k := made(t, periodic(1, 0, 9), periodic(5, 1, 9), periodic(5, 2, 9), sporadic(255, 9))
	asks := [][]int{nil, nil, nil, {3}, nil, nil, nil, nil}
	want := []int{0, 1, 1, 3, 1, 2, 0, 0}
	ends := []int{0, 0, 0, 1, 1, 1, 0, 1}
	for tick, i := range want {
		k.Open(asks[tick])
		if got, ok := k.Pick(); got != i || !ok {
			t.Fatalf("at %d: %d, not %d", tick, got, i)
		}
		k.Close(0, ends[tick] == 1)
	}
	k.Open(nil)
	if i, ok := k.Pick(); i != 0 || ok {
		t.Error("all have ended")
	}
}

// on is what comes of some ticks of a kernel, of which the first one may be open.
func on(k *kernel.Kernel, ticks int) []event {
	var all []event
	for range ticks {
		all = append(all, k.Open([]int{0, k.Now()})...)
		all = append(all, k.Close(k.Now(), k.Now()%2 == 0)...)
	}
	return all
}

// P29.4: a clone is like the kernel, and apart.
func TestClone(t *testing.T) {
	l := []api.Task{sporadic(1, 3), periodic(2, 1, 4), periodic(0, 0, 2)}
	for ticks := range 12 {
		for _, open := range []bool{false, true} {
			k, other := made(t, l...), made(t, l...)
			for _, x := range []*kernel.Kernel{k, other} {
				on(x, ticks)
				if open {
					x.Open([]int{0})
				}
			}
			c, d := k.Clone(), k.Clone()
			want := on(other, 9)
			for _, x := range []*kernel.Kernel{c, d.Clone(), k, d} {
				if got := on(x, 9); !slices.Equal(got, want) {
					t.Fatalf("behind %d ticks: %v, not %v", ticks, got, want)
				}
				if !slices.Equal(x.Jobs(), other.Jobs()) || !slices.Equal(x.Overs(), other.Overs()) || x.Now() != other.Now() {
					t.Fatalf("behind %d ticks: other jobs", ticks)
				}
			}
		}
	}
}

// P29.4: what is told is new memory.
func TestTold(t *testing.T) {
	k := made(t, periodic(1, 0, 1))
	for range 3 {
		k.Open(nil)
		k.Close(0, false)
	}
	k.Jobs()[0].No, k.Overs()[0].At = 9, 9
	if k.Jobs()[0].No != 0 || k.Overs()[0].At != 1 || len(k.Jobs()) != 1 || len(k.Overs()) != 2 {
		t.Error("what is told is the kernel's own")
	}
}

// P29.5: the examples, and what is not there.
func TestRun(t *testing.T) {
	two := []api.Task{periodic(0, 0, 4), periodic(1, 0, 4)}
	l, e := kernel.Run(two, nil, [][]int{{2}, {2}}, 4)
	if e != api.OK {
		t.Fatal(e)
	}
	come(t, "the example", l, released(0, 0, 0), released(0, 1, 0), step(0, 1, 0, 0), step(1, 1, 0, 1), done(1, 1, 0, 2), step(2, 0, 0, 0), step(3, 0, 0, 1), done(3, 0, 0, 4))
	l, _ = kernel.Run([]api.Task{periodic(0, 0, 2)}, nil, [][]int{{3}}, 3)
	come(t, "too long", l, released(0, 0, 0), step(0, 0, 0, 0), step(1, 0, 0, 1), missed(2, 0, 0), over(2, 0), step(2, 0, 0, 2), done(2, 0, 0, 3))
	asks := []due{{At: 3, Task: 0}, {At: 1, Task: 7}, {At: 0, Task: 0}, {At: 3, Task: 1}, {At: 5, Task: 0}, {At: -1, Task: 0}, {At: math.MaxInt, Task: 0}, {At: 3, Task: -2}}
	l, _ = kernel.Run([]api.Task{sporadic(0, 3)}, asks, nil, 5)
	come(t, "asked for", l, released(0, 0, 0), step(0, 0, 0, 0), done(0, 0, 0, 1), refused(1, 7), idle(1), idle(2),
		released(3, 0, 1), refused(3, 1), refused(3, -2), step(3, 0, 1, 0), done(3, 0, 1, 1), idle(4))
	// A demand below 1, or that is not there, is 1.
	for _, demand := range [][][]int{nil, {}, {nil}, {{}}, {{0, -5}}, {{1, math.MinInt}}, {{1, 1, 9}, {9}}} {
		l, e := kernel.Run([]api.Task{periodic(0, 0, 2)}, nil, demand, 4)
		if e != api.OK {
			t.Fatal(e)
		}
		come(t, "of one step", l, released(0, 0, 0), step(0, 0, 0, 0), done(0, 0, 0, 1), idle(1), released(2, 0, 1), step(2, 0, 1, 0), done(2, 0, 1, 1), idle(3))
	}
	l, _ = kernel.Run([]api.Task{periodic(0, 0, 2)}, nil, [][]int{{math.MaxInt}}, 2)
	come(t, "without end", l, released(0, 0, 0), step(0, 0, 0, 0), step(1, 0, 0, 1))
}

// P29.5: wrong arguments, and the most ticks.
func TestRunErrors(t *testing.T) {
	right := []api.Task{periodic(0, 0, 2)}
	for _, c := range []struct {
		l     []api.Task
		ticks int
		e     api.Errno
	}{
		{nil, 4, api.ErrArg}, {[]api.Task{{}}, 4, api.ErrArg}, {slices.Repeat(right, 9), 4, api.ErrArg}, {nil, -1, api.ErrArg},
		{right, -1, api.ErrArg}, {right, math.MinInt, api.ErrArg}, {right, 65537, api.ErrArg}, {right, math.MaxInt, api.ErrArg},
		{right, 0, api.OK}, {right, 1, api.OK}, {right, 65536, api.OK},
	} {
		l, e := kernel.Run(c.l, nil, nil, c.ticks)
		if e != c.e || (e != api.OK || c.ticks == 0) != (len(l) == 0) {
			t.Errorf("%d tasks, %d ticks: %d, %d events", len(c.l), c.ticks, e, len(l))
		}
		if e == api.OK && c.ticks > 0 && l[len(l)-1].T != c.ticks-1 {
			t.Error("not all ticks")
		}
	}
}

// some are plain tasks.
func some(r *rand.Rand) []api.Task {
	l := make([]api.Task, 1+r.IntN(8))
	for i := range l {
		l[i] = periodic(r.IntN(4), r.IntN(8), 1+r.IntN(20))
		if r.IntN(2) == 0 {
			l[i] = sporadic(r.IntN(4), 1+r.IntN(20))
		}
		l[i].Deadline = 1 + r.IntN(l[i].Period)
	}
	return l
}

// asking are asks, in no order, of all kinds.
func asking(r *rand.Rand, ticks int) []due {
	l := make([]due, r.IntN(60))
	for i := range l {
		l[i] = due{At: r.IntN(ticks+4) - 2, Task: r.IntN(10) - 1}
	}
	return l
}

// demanding are demands, of which some are not there.
func demanding(r *rand.Rand, most int) [][]int {
	l := make([][]int, r.IntN(9))
	for i := range l {
		for range r.IntN(9) {
			l[i] = append(l[i], r.IntN(most+2)-1)
		}
	}
	return l
}

// run is what Run promises, by the chapter's words, with all that is there in lists.
func run(l []api.Task, asks []due, demand [][]int, ticks int) (events []event, jobs []api.Job, overs []due) {
	last := map[int]int{}
	find := func(i int) int {
		return slices.IndexFunc(jobs, func(j api.Job) bool { return j.Task == i && j.End < 0 })
	}
	count := func(i int) (n int) {
		for _, j := range jobs {
			if j.Task == i {
				n++
			}
		}
		return n
	}
	let := func(t, i int) {
		if find(i) >= 0 {
			events, overs = append(events, over(t, i)), append(overs, due{At: t, Task: i})
			return
		}
		events = append(events, released(t, i, count(i)))
		jobs = append(jobs, api.Job{Task: i, No: count(i), Release: t, Deadline: t + l[i].Deadline, Start: -1, End: -1})
	}
	for t := range ticks {
		for i := range l {
			if at := find(i); at >= 0 && jobs[at].Deadline == t {
				jobs[at].Missed = true
				events = append(events, missed(t, i, jobs[at].No))
			}
		}
		for i, x := range l {
			if x.Kind == api.Periodic && t >= x.Offset && (t-x.Offset)%x.Period == 0 {
				let(t, i)
			}
		}
		for _, d := range asks {
			ahead, ok := last[d.Task]
			switch {
			case d.At != t:
			case d.Task < 0 || d.Task >= len(l) || l[d.Task].Kind == api.Periodic || ok && t-ahead < l[d.Task].Period:
				events = append(events, refused(t, d.Task))
			default:
				last[d.Task] = t
				let(t, d.Task)
			}
		}
		first := -1
		for i := range l {
			if find(i) >= 0 && (first < 0 || l[i].Prio > l[first].Prio) {
				first = i
			}
		}
		if first < 0 {
			events = append(events, idle(t))
			continue
		}
		j := &jobs[find(first)]
		if j.Steps == 0 {
			j.Start = t
		}
		events = append(events, step(t, first, j.No, j.Steps))
		j.Steps++
		if j.Steps >= needs(demand, first, j.No) {
			j.End = t + 1
			events = append(events, done(t, first, j.No, t+1-j.Release))
		}
	}
	return events, jobs, overs
}

// needs is how many steps a job has.
func needs(demand [][]int, i, n int) int {
	if i < len(demand) && n < len(demand[i]) {
		return max(1, demand[i][n])
	}
	return 1
}

// P29.3 to P29.5: runs of all kinds of tasks, against the chapter's words.
func TestRuns(t *testing.T) {
	r := rand.New(rand.NewPCG(29, 5))
	for range 600 {
		ticks := r.IntN(100)
		l, asks, demand := some(r), asking(r, ticks), demanding(r, 6)
		before := slices.Clone(asks)
		want, jobs, overs := run(l, asks, demand, ticks)
		got, e := kernel.Run(l, asks, demand, ticks)
		if e != api.OK || !slices.Equal(got, want) {
			t.Fatalf("%v, %v, %v, %d:\n%v, not\n%v", l, asks, demand, ticks, got, want)
		}
		if !slices.Equal(asks, before) {
			t.Fatal("the asks were changed")
		}
		// The same, tick by tick, tells the same jobs.
		k := made(t, l...)
		var all []event
		for tick := range ticks {
			var asked []int
			for _, d := range asks {
				if d.At == tick {
					asked = append(asked, d.Task)
				}
			}
			all = append(all, k.Open(asked)...)
			i, _ := k.Pick()
			at, no := under(k.Jobs(), i)
			all = append(all, k.Close(at, at+1 >= needs(demand, i, no))...)
		}
		if !slices.Equal(all, want) || !slices.Equal(k.Jobs(), jobs) || !slices.Equal(k.Overs(), overs) || k.Now() != ticks {
			t.Fatalf("%v, %v, %v: jobs %v, not %v", l, asks, demand, k.Jobs(), jobs)
		}
	}
}

// under is how many steps the last job of a task has, and its number.
func under(jobs []api.Job, i int) (steps, no int) {
	for _, j := range jobs {
		if j.Task == i {
			steps, no = j.Steps, j.No
		}
	}
	return steps, no
}

// P29.6: in each tick one step, of who goes ahead of all that are ready; and the releases of chapter 27.
func TestOneStepATick(t *testing.T) {
	r := rand.New(rand.NewPCG(29, 6))
	for range 300 {
		ticks := r.IntN(80)
		l, asks := some(r), asking(r, ticks)
		events, _ := kernel.Run(l, asks, demanding(r, 6), ticks)
		var came, refusals []due
		ready, tick := map[int]int{}, 0
		for _, e := range events {
			now := tick
			switch e.Kind {
			case api.EvRelease:
				ready[e.Task] = 1
				came = append(came, due{At: e.T, Task: e.Task})
			case api.EvOver:
				came = append(came, due{At: e.T, Task: e.Task})
			case api.EvRefuse:
				refusals = append(refusals, due{At: e.T, Task: e.Task})
			case api.EvIdle:
				if len(ready) > 0 {
					t.Fatalf("idle, though %v are ready", ready)
				}
				tick++
			case api.EvStep:
				for i := range ready {
					if i != e.Task && !task.Ahead(l, e.Task, i) || ready[e.Task] == 0 {
						t.Fatalf("%v, though %v are ready", e, ready)
					}
				}
				tick++
			case api.EvDone:
				now-- // it comes in the tick of its step
				delete(ready, e.Task)
			}
			if e.T != now {
				t.Fatalf("%v comes at %d", e, now)
			}
		}
		if tick != ticks {
			t.Fatal("not all ticks")
		}
		let, refused := release.All(l, asks, ticks)
		slices.SortFunc(came, byTime)
		slices.SortFunc(refusals, byTime)
		refused = slices.DeleteFunc(refused, func(d due) bool { return d.At < 0 || d.At >= ticks })
		if !slices.Equal(came, let) || !slices.Equal(refusals, refused) {
			t.Fatalf("%v, %v: %v, %v, not %v, %v", l, asks, came, refusals, let, refused)
		}
	}
}

// byTime is below 0 if a comes ahead of b.
func byTime(a, b due) int {
	if a.At != b.At {
		return a.At - b.At
	}
	return a.Task - b.Task
}

// of is the events of some tasks.
func of(l []event, tasks []int) []event {
	return slices.DeleteFunc(slices.Clone(l), func(e event) bool { return !slices.Contains(tasks, e.Task) })
}

// P5: whoever goes ahead of others is not disturbed by them.
func TestNotDisturbed(t *testing.T) {
	r := rand.New(rand.NewPCG(5, 1))
	for range 300 {
		const ticks = 70
		l, asks, demand := some(r), asking(r, ticks), demanding(r, 6)
		i := r.IntN(len(l))
		ahead := append(task.Above(l, i), i)
		// All behind i come, ask and demand otherwise.
		other, more := slices.Clone(l), slices.Clone(demand)
		for b := range other {
			if slices.Contains(ahead, b) {
				continue
			}
			other[b] = periodic(l[b].Prio, r.IntN(4), 1+r.IntN(9))
			if b < len(more) {
				more[b] = []int{40, 40}
			}
		}
		less := slices.DeleteFunc(slices.Clone(asks), func(d due) bool { return !slices.Contains(ahead, d.Task) })
		a, _ := kernel.Run(l, asks, demand, ticks)
		b, _ := kernel.Run(other, less, more, ticks)
		if !slices.Equal(of(a, ahead), of(b, ahead)) {
			t.Fatalf("%v, %v, %v: %d is disturbed", l, asks, demand, i)
		}
	}
}

// P5: if all comes later, all comes later by as much.
func TestLater(t *testing.T) {
	r := rand.New(rand.NewPCG(5, 2))
	for range 300 {
		const ticks = 60
		by := r.IntN(30)
		l, asks, demand := some(r), asking(r, ticks), demanding(r, 6)
		asks = slices.DeleteFunc(asks, func(d due) bool { return d.At < 0 })
		now, _ := kernel.Run(l, asks, demand, ticks)
		var want []event
		for t := range by {
			want = append(want, idle(t))
		}
		for _, e := range now {
			e.T += by
			want = append(want, e)
		}
		for i := range l {
			if l[i].Kind == api.Periodic {
				l[i].Offset += by
			}
		}
		for i := range asks {
			asks[i].At += by
		}
		later, _ := kernel.Run(l, asks, demand, ticks+by)
		if !slices.Equal(later, want) {
			t.Fatalf("%v, %v, %v: not all later by %d", l, asks, demand, by)
		}
	}
}
