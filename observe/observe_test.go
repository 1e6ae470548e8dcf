package observe_test

import (
	"math"
	"math/rand/v2"
	"slices"
	"testing"

	"coxswain/admit"
	"coxswain/api"
	"coxswain/demand"
	"coxswain/exec"
	"coxswain/interfere"
	"coxswain/observe"
	"coxswain/script"
	"coxswain/source"
)

type event = api.Event

// Events of the kinds that are looked at.
func step(i, no int) event { return event{Kind: api.EvStep, Task: i, A: no} }
func done(i, b int) event  { return event{Kind: api.EvDone, Task: i, B: b} }
func idle() event          { return event{Kind: api.EvIdle, Task: -1} }

// P46.2: the greatest, and the least, response time of a task, if there is one.
func TestResponses(t *testing.T) {
	others := []event{step(1, 5), idle(), {Kind: api.EvBack, Task: 1, A: 9, B: 9}, {Kind: api.EvCall, Task: 1, B: 9}, {Kind: api.EvMiss, Task: 1, A: 4}, {Kind: 0, Task: 1, B: 9}, {Kind: 10, Task: 1, B: 9}}
	for _, c := range []struct {
		l            []event
		i            int
		least, worst int
		ok           bool
	}{
		{nil, 0, 0, 0, false}, {others, 1, 0, 0, false}, {[]event{done(0, 3)}, 1, 0, 0, false},
		{[]event{done(1, 3)}, 1, 3, 3, true}, {[]event{done(1, 0)}, 1, 0, 0, true},
		{[]event{done(1, 3), done(0, 1), done(1, 7), done(2, 9), done(1, 5)}, 1, 3, 7, true},
		{[]event{done(1, 7), done(1, 5), done(1, 3)}, 1, 3, 7, true},
		{[]event{done(0, -4), done(0, -9)}, 0, -9, -4, true}, {[]event{done(-1, 4), done(-1, 2)}, -1, 2, 4, true},
		{[]event{done(0, math.MaxInt), done(0, math.MinInt), done(0, 0)}, 0, math.MinInt, math.MaxInt, true},
		{slices.Concat(others, []event{done(1, 4)}, others), 1, 4, 4, true}, {[]event{done(math.MaxInt, 4)}, math.MaxInt, 4, 4, true},
	} {
		if worst, ok := observe.Worst(c.l, c.i); worst != c.worst || ok != c.ok {
			t.Errorf("Worst of %v, %d: %d, %t", c.l, c.i, worst, ok)
		}
		if least, ok := observe.Least(c.l, c.i); least != c.least || ok != c.ok {
			t.Errorf("Least of %v, %d: %d, %t", c.l, c.i, least, ok)
		}
	}
}

// P46.2: how many steps, and how many idle ticks, there are.
func TestBusyAndIdle(t *testing.T) {
	l := []event{step(0, 0), step(1, 0), done(0, 1), step(0, 4), idle(), {Kind: api.EvIdle, Task: 0}, {Kind: api.EvRelease}, {Kind: api.EvCall}, step(-1, 0), step(math.MinInt, 0)}
	for i, want := range map[int]int{0: 2, 1: 1, 2: 0, -1: 1, math.MinInt: 1, math.MaxInt: 0} {
		if n := observe.Busy(l, i); n != want || observe.Busy(nil, i) != 0 {
			t.Errorf("%d: %d, not %d", i, n, want)
		}
	}
	if observe.Idle(l) != 2 || observe.Idle(nil) != 0 || observe.Idle(l[:4]) != 0 {
		t.Error(observe.Idle(l))
	}
}

// P46.2: a job goes on behind others' steps, idle ticks, and steps of other jobs of its task.
func TestPreempts(t *testing.T) {
	other := event{Kind: api.EvDone, Task: 0}
	for name, c := range map[string]struct {
		l    []event
		want int
	}{
		"nothing": {nil, 0}, "the chapter's example": {[]event{step(0, 0), step(1, 0), step(0, 0)}, 1},
		"one step": {[]event{step(0, 0)}, 0}, "nobody in between": {[]event{step(0, 0), step(0, 0), step(0, 0)}, 0},
		"the first one behind others": {[]event{step(1, 0), idle(), step(0, 0), step(0, 0)}, 0}, "the next job": {[]event{step(0, 0), step(1, 0), step(0, 1)}, 0},
		"an idle tick": {[]event{step(0, 3), idle(), step(0, 3)}, 1}, "an idle tick of the task": {[]event{step(0, 3), {Kind: api.EvIdle}, step(0, 3)}, 1},
		"two in between": {[]event{step(0, 3), step(2, 3), step(1, 3), step(0, 3)}, 1}, "twice": {[]event{step(0, 3), step(1, 3), step(0, 3), step(1, 3), step(0, 3)}, 2},
		"other events": {[]event{step(0, 0), other, {Kind: api.EvMiss}, {Kind: api.EvCall, Task: 1}, step(0, 0)}, 0}, "another job of the task": {[]event{step(0, 0), step(0, 1), step(0, 0), step(0, 1)}, 2},
		"times that fall": {[]event{{Kind: api.EvStep, T: 9}, {Kind: api.EvStep, Task: 1, T: 5}, {Kind: api.EvStep, T: 2}}, 1}, "one time": {[]event{{Kind: api.EvStep, T: 9, B: 4}, {Kind: api.EvStep, T: 9}}, 0},
		"strange numbers": {[]event{step(0, -7), step(-1, -7), step(0, -7), step(0, math.MinInt), step(5, 0), step(0, math.MinInt)}, 2},
	} {
		if n := observe.Preempts(c.l, 0); n != c.want {
			t.Errorf("%s: %d, not %d", name, n, c.want)
		}
	}
	if n := observe.Preempts([]event{step(-1, 0), step(0, 0), step(-1, 0)}, -1); n != 1 {
		t.Error(n)
	}
}

// lastBehind is the place of the last event ahead of a place that is as asked; -1, if there is none.
func lastBehind(l []event, at int, asked func(event) bool) int {
	for at--; at >= 0; at-- {
		if asked(l[at]) {
			return at
		}
	}
	return -1
}

// preempts is what Preempts promises, event by event.
func preempts(l []event, i int) int {
	n := 0
	for at, e := range l {
		if e.Kind != api.EvStep || e.Task != i {
			continue
		}
		own := lastBehind(l, at, func(x event) bool { return x.Kind == api.EvStep && x.Task == i && x.A == e.A })
		anybody := lastBehind(l, at, func(x event) bool { return x.Kind == api.EvStep || x.Kind == api.EvIdle })
		if own >= 0 && own != anybody {
			n++
		}
	}
	return n
}

// P46.2: Preempts, of events of all sorts.
func TestAnyPreempts(t *testing.T) {
	r := rand.New(rand.NewPCG(46, 2))
	seen := 0
	for range 5000 {
		l := make([]event, r.IntN(30))
		for k := range l {
			l[k] = event{Kind: api.EvStep + r.IntN(3), Task: r.IntN(3) - 1, A: r.IntN(3)}
			if r.IntN(3) > 0 {
				l[k].Kind = api.EvStep
			}
		}
		for i := -2; i < 3; i++ {
			want := preempts(l, i)
			seen += want
			if n := observe.Preempts(l, i); n != want {
				t.Fatalf("%v, %d: %d, not %d", l, i, n, want)
			}
		}
	}
	if seen < 1000 {
		t.Error(seen)
	}
}

// P46.3: calls of the object that have ended, by their codes, and the longest of them.
func TestCalls(t *testing.T) {
	l := []api.Call{
		{Object: 0, Begin: 2, End: 5}, {Object: 0, Code: api.Retry, Begin: 6, End: 6}, {Object: 1, Begin: 0, End: 90}, {Object: 0, Begin: 7, End: -1}, {Object: 0, Code: api.Retry, Begin: 7, End: -2},
		{Object: 0, Begin: 9, End: 20, Op: api.OpWrite, Proc: 4}, {Object: 0, Code: -3, Begin: 30, End: 31}, {Object: -1, Code: 99, End: 0}, {Object: 2, Begin: 9, End: 3}, {Object: 3, Begin: 9, End: 8}, {Object: 4, End: -1, Begin: -100},
	}
	for _, c := range []struct{ object, code, want int }{
		{0, api.Good, 2}, {0, api.Retry, 1}, {0, api.Full, 0}, {0, -3, 1}, {1, api.Good, 1}, {1, api.Retry, 0}, {-1, 99, 1}, {-1, 0, 0}, {4, 0, 0}, {9, 0, 0}, {math.MaxInt, math.MinInt, 0},
	} {
		if n := observe.Ends(l, c.object, c.code); n != c.want || observe.Ends(nil, c.object, c.code) != 0 {
			t.Errorf("%v: %d", c, n)
		}
	}
	for object, want := range map[int]int{0: 12, 1: 91, -1: 1, 2: 0, 3: 0, 4: 0, 5: 0, math.MinInt: 0} {
		if n := observe.Longest(l, object); n != want || observe.Longest(nil, object) != 0 {
			t.Errorf("%d: %d, not %d", object, n, want)
		}
	}
	huge := []api.Call{{Begin: 0, End: math.MaxInt}, {Object: 1, Begin: math.MinInt, End: 0}, {Object: 2, Begin: 1, End: math.MaxInt}}
	if observe.Longest(huge, 0) != 0 || observe.Longest(huge, 1) != 0 || observe.Longest(huge, 2) != math.MaxInt {
		t.Error("a sum goes round")
	}
}

// shared are three tasks, and objects that they share.
const shared = `task periodic 5 40 2 35 2
load r1 r0 0
set r2 1
add r1 r1 r2
store r1 r0 0
write r3 o0 0
put r3 o1 0
done
end
task sporadic 4 90 0 80 3
read r1 o0 1
zero r1 3
nop
nop
done
end
task sporadic 6 60 0 30 2
nop
back 0 2
take r1 o1 0
done
end
object seq 1 0 3 0 0 readers 1 init 7
object fifo 1 2 0 0 0 readers 2 init
`

// late are a task whose jobs may come too late, as each of its reads may be spoilt, and one that goes ahead of it.
const late = `task sporadic 1 60 0 60 1
read r1 o0 0
read r1 o0 0
done
end
task periodic 2 9 0 9 1
write r1 o0 0
done
end
object seq 1 0 1 0 1 readers 0 init 7
`

// asking is acts that are right, of at most some thousands of ticks.
func asking(r *rand.Rand, tasks int) []api.Act {
	var l []api.Act
	for range r.IntN(100) {
		l = append(l, api.Act{Kind: api.ActAsk, N: r.IntN(tasks)}, api.Act{Kind: api.ActRun, N: r.IntN(40)})
	}
	return l
}

// jobSteps is how many steps each job of a task has, by their numbers.
func jobSteps(l []event, i int) map[int]int {
	steps := map[int]int{}
	for _, e := range l {
		if e.Kind == api.EvStep && e.Task == i {
			steps[e.A]++
		}
	}
	return steps
}

// P46.4: runs of what is admitted, and of what is not.
func TestRuns(t *testing.T) {
	r := rand.New(rand.NewPCG(46, 4))
	for _, text := range []string{shared, late} {
		s, _, e := source.Parse(text)
		if e != api.OK {
			t.Fatal(e)
		}
		v := admit.Check(s)
		if (v.E == api.OK) != (text == shared) {
			t.Fatal(v)
		}
		seen := 0
		for range 200 {
			acts := asking(r, len(s.Tasks))
			x := exec.Go(s, acts)
			ticks := observe.Idle(x.Events)
			for i := range s.Tasks {
				ticks += observe.Busy(x.Events, i)
				seen += observe.Preempts(x.Events, i)
				whole, _ := demand.Whole(s, i)
				for no, n := range jobSteps(x.Events, i) {
					if n > whole || v.E == api.OK && (n > interfere.Job(s, i, v.R[i]) || n > v.R[i]) {
						t.Fatalf("%v: job %d of %d has %d steps", acts, no, i, n)
					}
				}
				if worst, _ := observe.Worst(x.Events, i); v.E == api.OK && worst > v.R[i] {
					t.Fatalf("%v: %d is late: %d", acts, i, worst)
				}
			}
			if ticks != script.Ticks(acts) {
				t.Fatalf("%v: %d ticks", acts, ticks)
			}
		}
		if seen < 100 {
			t.Errorf("just %d times somebody went on behind others", seen)
		}
	}
}

// P46.1: what is handed in is not changed.
func TestUnchanged(t *testing.T) {
	l := []event{step(0, 0), step(1, 0), step(0, 0), done(0, 3), idle()}
	calls := []api.Call{{Rec: []uint32{4}, End: 3}, {Object: 1, End: -1}}
	wasL, wasRec := slices.Clone(l), slices.Clone(calls[0].Rec)
	observe.Worst(l, 0)
	observe.Least(l, 0)
	observe.Busy(l, 0)
	observe.Idle(l)
	observe.Preempts(l, 0)
	observe.Ends(calls, 0, 0)
	observe.Longest(calls, 0)
	if !slices.Equal(l, wasL) || !slices.Equal(calls[0].Rec, wasRec) || calls[0].End != 3 || calls[1].Object != 1 {
		t.Error(l, calls)
	}
}
