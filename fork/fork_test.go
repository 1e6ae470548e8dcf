package fork_test

import (
	"math"
	"math/rand/v2"
	"slices"
	"strconv"
	"strings"
	"testing"

	"coxswain/admit"
	"coxswain/api"
	"coxswain/exec"
	"coxswain/fork"
	"coxswain/source"
	"coxswain/system"
)

// sys is the system of a text.
func sys(t *testing.T, text string) api.System {
	t.Helper()
	s, line, e := source.Parse(text)
	if e != api.OK {
		t.Fatalf("line %d of %q: %d", line, text, e)
	}
	return s
}

// same tells whether two reports are the same.
func same(a, b api.Report) bool {
	return a.Runs == b.Runs && slices.Equal(a.Worst, b.Worst) && a.Bad == b.Bad
}

// once is a task that is asked for, of two steps, and never one that is not.
const (
	once  = "task sporadic 1 5 0 5 1\nnop\ndone\nend\n"
	never = "task periodic 2 9 1 9 1\nnop\ndone\nend\n"
)

// P47.2: the sporadic tasks, rising, whatever else they are.
func TestWays(t *testing.T) {
	for _, c := range []struct{ kinds, want []int }{
		{nil, nil}, {[]int{api.Periodic}, nil}, {[]int{api.Sporadic}, []int{0}}, {[]int{2, 1, 2, 0, 3, 2, -2, math.MaxInt, 2}, []int{0, 2, 5, 8}},
	} {
		var s api.System
		for _, kind := range c.kinds {
			s.Tasks = append(s.Tasks, api.Task{Kind: kind})
		}
		if got := fork.Ways(s); !slices.Equal(got, c.want) {
			t.Errorf("%v: %v", c.kinds, got)
		}
	}
	s := sys(t, once+never+once)
	clear(fork.Ways(s))
	if got := fork.Ways(s); !slices.Equal(got, []int{0, 2}) {
		t.Error(got)
	}
}

// P47.2: ErrArg of the ticks ahead of what is wrong of the system; the zero report.
func TestErrors(t *testing.T) {
	wrong := []api.System{{}, sys(t, strings.Repeat(once, 9)), sys(t, "task sporadic 1 5 1 5 1\ndone\nend\n"), sys(t, "task sporadic 1 5 0 5 1\nnop\nend\n"), sys(t, "task sporadic 1 5 0 5 1\nput r0 o0 0\ndone\nend\n"), sys(t, once+"object fifo 1 0 0 0 0 readers 1 init\n"), sys(t, once+"object fifo 1 1 0 0 0 readers 1 init\n")}
	good := sys(t, once)
	met := map[api.Errno]int{}
	for _, most := range []int{math.MinInt, 0, 1, math.MaxInt} {
		for k, s := range append(wrong, good) {
			for _, ticks := range []int{-1, api.MaxFork + 1, math.MinInt, math.MaxInt} {
				if r, e := fork.Explore(s, ticks, most); e != api.ErrArg || !same(r, api.Report{}) {
					t.Errorf("%d, %d ticks: %v, %d", k, ticks, r, e)
				}
			}
		}
		for k, s := range wrong {
			_, want := system.Check(s)
			met[want]++
			for _, ticks := range []int{0, 1, api.MaxFork} {
				if r, e := fork.Explore(s, ticks, most); e != want || e == api.OK || !same(r, api.Report{}) {
					t.Errorf("%d, %d ticks: %v, %d, not %d", k, ticks, r, e, want)
				}
			}
		}
	}
	if len(met) < 5 {
		t.Error(met)
	}
}

// P47.2, P47.3: the chapter's example, no ticks, nobody who is asked for, and how many runs there are at most.
func TestRuns(t *testing.T) {
	for _, c := range []struct {
		text        string
		ticks, most int
		want        api.Report
	}{
		{once, 2, 9, api.Report{Runs: 4, Worst: []int{2}}}, {once, 2, 4, api.Report{Runs: 4, Worst: []int{2}}},
		// At first nobody is asked for, then in the last tick alone, then in the one ahead of it alone.
		{once, 2, 1, api.Report{Runs: 1, Worst: []int{0}}}, {once, 2, 2, api.Report{Runs: 2, Worst: []int{0}}}, {once, 2, 3, api.Report{Runs: 3, Worst: []int{2}}},
		{once, 2, 0, api.Report{Worst: []int{0}}}, {once, 2, -1, api.Report{Worst: []int{0}}}, {once, 64, math.MinInt, api.Report{Worst: []int{0}}},
		{once, 0, 9, api.Report{Runs: 1, Worst: []int{0}}}, {once, 0, 0, api.Report{Worst: []int{0}}}, {once, 1, 9, api.Report{Runs: 2, Worst: []int{0}}},
		{never, 64, math.MaxInt, api.Report{Runs: 1, Worst: []int{2}}}, {never, 2, 9, api.Report{Runs: 1, Worst: []int{0}}}, {never, 0, 1, api.Report{Runs: 1, Worst: []int{0}}},
		{never + once, 4, 99, api.Report{Runs: 16, Worst: []int{2, 4}}}, {once + once, 4, 999, api.Report{Runs: 256, Worst: []int{2, 4}}}, {once + once, 4, 255, api.Report{Runs: 255, Worst: []int{2, 4}}},
		{strings.Repeat(once, 8), 64, 1000, api.Report{Runs: 1000, Worst: []int{2, 2, 0, 0, 0, 0, 0, 0}}}, {strings.Repeat(once, 8), 2, 256, api.Report{Runs: 256, Worst: make([]int, 8)}}, {strings.Repeat(once, 8), 2, 257, api.Report{Runs: 257, Worst: []int{2, 0, 0, 0, 0, 0, 0, 0}}},
	} {
		if r, e := fork.Explore(sys(t, c.text), c.ticks, c.most); e != api.OK || !same(r, c.want) {
			t.Errorf("%q, %d, %d: %v, %d, not %v", c.text, c.ticks, c.most, r, e, c.want)
		}
	}
}

// What goes wrong if 1 is asked for, and what goes wrong anyhow: a miss, an overrun, a read that is spoilt.
const (
	missed  = never + "task sporadic 1 9 0 2 1\nnop\ndone\nend\n"
	over    = "task periodic 1 2 0 2 1\nnop\nnop\nnop\ndone\nend\n"
	spoilt  = "task periodic 1 20 0 20 1\nread r1 o0 0\ndone\nend\ntask sporadic 2 20 0 20 1\nwrite r1 o0 0\ndone\nend\nobject seq 1 0 1 0 1 readers 0 init 5\n"
	full    = "task sporadic 1 20 0 20 1\nput r1 o0 0\nput r1 o0 0\ndone\nend\ntask periodic 2 20 0 20 1\ntake r1 o0 0\ndone\nend\nobject fifo 1 1 0 0 0 readers 1 init\n"
	refused = "task sporadic 1 20 0 20 1\ndone\nend\n"
)

// P47.2: Bad is so of a miss, an overrun, and a read that ends with Retry; of nothing else; and just if it came in a run that was gone.
func TestBad(t *testing.T) {
	for _, c := range []struct {
		text        string
		ticks, most int
		want        bool
	}{
		{missed, 4, 1, false}, {missed, 4, 99, true}, {missed, 3, 99, true}, {missed, 2, 99, false}, {over, 2, 1, false}, {over, 3, 1, true}, {over, 3, 0, false},
		{spoilt, 8, 1, false}, {spoilt, 8, 999, true}, {spoilt, 4, 999, false}, {full, 12, 5000, false}, {refused, 8, 999, false},
	} {
		if r, e := fork.Explore(sys(t, c.text), c.ticks, c.most); e != api.OK || r.Bad != c.want {
			t.Errorf("%q, %d, %d: %v, %d", c.text, c.ticks, c.most, r, e)
		}
	}
}

// runActs is the acts of the run of a number, from 0 on, of so many ticks: its choices are the number's digits.
func runActs(ways []int, ticks, n int) []api.Act {
	var l []api.Act
	choices := 1 << len(ways)
	for range ticks {
		acts := []api.Act{{Kind: api.ActRun, N: 1}}
		for place := len(ways) - 1; place >= 0; place-- {
			if n%choices>>place&1 == 1 {
				acts = append([]api.Act{{Kind: api.ActAsk, N: ways[place]}}, acts...)
			}
		}
		n /= choices
		l = append(acts, l...)
	}
	return l
}

// reports is what Explore promises of the first run, of the first two, and so on: each run is made from the beginning on.
func reports(s api.System, ticks, runs int) []api.Report {
	ways := fork.Ways(s)
	sum := api.Report{Worst: make([]int, len(s.Tasks))}
	l := []api.Report{sum}
	for n := range runs {
		sum.Runs, sum.Worst = n+1, slices.Clone(sum.Worst)
		for _, e := range exec.Go(s, runActs(ways, ticks, n)).Events {
			switch {
			case e.Kind == api.EvDone:
				sum.Worst[e.Task] = max(sum.Worst[e.Task], e.B)
			case e.Kind == api.EvMiss, e.Kind == api.EvOver, e.Kind == api.EvBack && e.B == api.Retry:
				sum.Bad = true
			}
		}
		l = append(l, sum)
	}
	return l
}

// power is how many runs of so many ticks there are, if these are at most some thousands; else so many.
func power(choices, ticks int) int {
	n := 1
	for range ticks {
		n = min(n*choices, 5000)
	}
	return n
}

// some picks one of the items.
func some[T any](r *rand.Rand, l ...T) T { return l[r.IntN(len(l))] }

// shared are objects of kinds whose reads may be spoilt, and not.
var shared = []string{"four 1 0 0 0 ", "seq 1 0 1 0 ", "seq 1 0 3 4294967294 ", "ring 1 2 1 0 ", "ring 1 4 1 0 ", "cab 1 3 2 0 "}

// crowd is a system of some tasks, of which at most so many are asked for; 0 writes what 1 reads.
func crowd(t *testing.T, r *rand.Rand, ways int) api.System {
	t.Helper()
	calls := []string{"write r1 o0 0\n", "read r1 o0 0\n"}
	text := ""
	for i := range 2 + r.IntN(3) {
		period := some(r, 3, 6, 9, 14, 30, 60)
		numbers := []int{r.IntN(4), period, r.IntN(3), period - r.IntN(3), 1}
		kind := "periodic"
		if ways > 0 && r.IntN(3) > 0 {
			kind, numbers[2] = "sporadic", 0
			ways--
		}
		text += "task " + kind
		for _, n := range numbers {
			text += " " + strconv.Itoa(n)
		}
		text += "\n" + strings.Repeat("nop\n", r.IntN(2))
		if i < len(calls) {
			text += calls[i]
		}
		text += "done\nend\n"
	}
	return sys(t, text+"object "+some(r, shared...)+"0 readers 1 init 5\n")
}

// P47.2, P47.3: all runs, and the first ones of them, are what each of them is from the beginning on; of what is admitted none is bad.
func TestExplore(t *testing.T) {
	r := rand.New(rand.NewPCG(47, 2))
	bad, good, admitted := 0, 0, 0
	for range 250 {
		s := crowd(t, r, 1+r.IntN(3))
		choices := 1 << len(fork.Ways(s))
		ticks := r.IntN(some(r, 6, 12, 20))
		if choices == 1 {
			ticks = r.IntN(api.MaxFork + 1)
		}
		runs := power(choices, ticks)
		want := reports(s, ticks, min(runs, 600))
		was := system.Copy(s)
		for _, most := range []int{0, 1, 2, r.IntN(len(want)), len(want) - 1} {
			most = min(most, len(want)-1)
			if got, e := fork.Explore(s, ticks, most); e != api.OK || !same(got, want[most]) {
				t.Fatalf("%v, %d, %d: %v, %d, not %v", s, ticks, most, got, e, want[most])
			}
		}
		all, e := fork.Explore(s, ticks, 5000)
		if e != api.OK || all.Runs != runs || !system.Same(s, was) {
			t.Fatalf("%v, %d: %v, %d: not %d runs", s, ticks, all, e, runs)
		}
		if all.Bad {
			bad++
		} else {
			good++
		}
		v := admit.Check(s)
		if v.E != api.OK {
			continue
		}
		admitted++
		for i, worst := range all.Worst {
			if all.Bad || worst > v.R[i] {
				t.Fatalf("%v, %d: %v, %v", s, ticks, v, all)
			}
		}
	}
	if bad < 50 || good < 50 || admitted < 20 {
		t.Error(bad, good, admitted)
	}
}

// P47.3: as many ticks as may be, and as many tasks: the runs that are gone first are those in which the last ticks differ.
func TestMost(t *testing.T) {
	text := ""
	for i := range api.MaxTasks {
		text += "task sporadic " + strconv.Itoa(i) + " 70 0 70 1\ndone\nend\n"
	}
	s := sys(t, text)
	want := reports(s, api.MaxFork, 300)
	for _, most := range []int{1, 2, 255, 256, 257, 300} {
		if got, e := fork.Explore(s, api.MaxFork, most); e != api.OK || !same(got, want[most]) {
			t.Errorf("%d: %v, %d, not %v", most, got, e, want[most])
		}
	}
	if !slices.Equal(want[300].Worst, slices.Repeat([]int{1}, api.MaxTasks)) {
		t.Error(want[300])
	}
}
