package abstract_test

import (
	"cmp"
	"math"
	"math/rand/v2"
	"slices"
	"testing"

	"coxswain/abstract"
	"coxswain/api"
	"coxswain/kernel"
	"coxswain/release"
	"coxswain/task"
)

type due = api.Due

// periodic is a plain periodic task; its deadline is its period.
func periodic(prio, offset, period int) api.Task {
	return api.Task{Kind: api.Periodic, Prio: prio, Period: period, Offset: offset, Deadline: period, Own: 1}
}

// sporadic is a plain sporadic task; its deadline is its period.
func sporadic(prio, period int) api.Task {
	return api.Task{Kind: api.Sporadic, Prio: prio, Period: period, Deadline: period, Own: 1}
}

// dues are releases, of each its time and its task.
func dues(l [][2]int) []due {
	var all []due
	for _, x := range l {
		all = append(all, due{At: x[0], Task: x[1]})
	}
	return all
}

// byTime is below 0 if a comes ahead of b.
func byTime(a, b due) int {
	return cmp.Or(cmp.Compare(a.At, b.At), cmp.Compare(a.Task, b.Task))
}

// The example.
func TestExample(t *testing.T) {
	l, let, demand := []api.Task{periodic(0, 0, 9), periodic(1, 0, 9)}, dues([][2]int{{0, 0}, {0, 1}}), [][]int{{2}, {2}}
	if line := abstract.Timeline(l, let, demand, 4); !slices.Equal(line, []int{1, 1, 0, 0}) {
		t.Error(line)
	}
	want := []api.Job{{Deadline: 9, Start: 2, End: 4, Steps: 2}, {Task: 1, Deadline: 9, End: 2, Steps: 2}}
	if jobs := abstract.Jobs(l, let, demand, 4); !slices.Equal(jobs, want) {
		t.Error(jobs)
	}
	want[0].End, want[0].Steps = -1, 1
	if jobs := abstract.Jobs(l, let, demand, 3); !slices.Equal(jobs, want) {
		t.Error(jobs)
	}
	want[0].Start, want[0].Steps = -1, 0
	if jobs := abstract.Jobs(l, let, demand, 2); !slices.Equal(jobs, want) {
		t.Error(jobs)
	}
}

// P30.2: a job misses its deadline, if that is one of the ticks, and its end is not there, or behind it.
func TestMissed(t *testing.T) {
	for _, c := range []struct {
		deadline, demand, ticks int
		missed                  bool
	}{
		{3, 3, 9, false}, {3, 3, 3, false}, {3, 4, 9, true}, {3, 4, 4, true}, {3, 4, 3, false}, {3, 99, 4, true}, {3, 99, 3, false},
		{0, 1, 1, true}, {-5, 1, 1, true}, {math.MinInt, 1, 1, true}, {math.MaxInt, 99, 9, false},
	} {
		l := []api.Task{{Deadline: c.deadline}}
		jobs := abstract.Jobs(l, []due{{}}, [][]int{{c.demand}}, c.ticks)
		if len(jobs) != 1 || jobs[0].Missed != c.missed || jobs[0].Deadline != min(max(c.deadline, 0), api.Top) {
			t.Errorf("%v: %v", c, jobs)
		}
	}
	jobs := abstract.Jobs([]api.Task{{Deadline: math.MaxInt}}, dues([][2]int{{7, 0}}), nil, 9)
	if jobs[0].Deadline != api.Top {
		t.Error("the sum is brought below Top:", jobs)
	}
}

// P30.2: a release that comes ahead of the end of the job ahead is an overrun; one that comes at it is a job.
func TestOverruns(t *testing.T) {
	l := make([]api.Task, 2)
	let := dues([][2]int{{5, 0}, {0, 0}, {2, 0}, {0, 0}, {3, 0}, {1, 1}, {8, 0}, {6, 0}, {7, 1}, {9, 0}})
	demand := [][]int{{3, 2, 9, 2}, {2}}
	if line := abstract.Timeline(l, let, demand, 10); !slices.Equal(line, []int{0, 0, 0, 0, 0, 0, 0, 0, 0, 0}) {
		t.Error(line)
	}
	if overs := abstract.Overs(l, let, demand, 10); !slices.Equal(overs, dues([][2]int{{0, 0}, {2, 0}, {6, 0}, {7, 1}, {8, 0}, {9, 0}})) {
		t.Error(overs)
	}
	want := []api.Job{{End: 3, Steps: 3, Missed: true}, {Task: 1, Release: 1, Deadline: 1, Start: -1, End: -1, Missed: true}, {No: 1, Release: 3, Deadline: 3, Start: 3, End: 5, Steps: 2, Missed: true}, {No: 2, Release: 5, Deadline: 5, Start: 5, End: -1, Steps: 5, Missed: true}}
	if jobs := abstract.Jobs(l, let, demand, 10); !slices.Equal(jobs, want) {
		t.Error(jobs)
	}
}

// The ticks: none below 0, and MaxTicks at most; releases that are none of theirs, or of no task, are none.
func TestTicks(t *testing.T) {
	l := []api.Task{periodic(1, 0, 3)}
	let := dues([][2]int{{-1, 0}, {4, 0}, {3, 1}, {3, -1}, {65536, 0}, {math.MaxInt, 0}, {math.MinInt, 0}, {0, math.MinInt}, {0, math.MaxInt}, {65535, 0}, {65534, 0}})
	for ticks, n := range map[int]int{math.MinInt: 0, -1: 0, 0: 0, 4: 0, 5: 1, 65535: 2, 65536: 3, 65537: 3, math.MaxInt: 3} {
		line := abstract.Timeline(l, let, nil, ticks)
		if len(line) != min(max(ticks, 0), 65536) || abstract.Busy(line, 0) != n || abstract.Busy(line, -1) != len(line)-n {
			t.Errorf("%d ticks: %d, of which %d are had", ticks, len(line), abstract.Busy(line, 0))
		}
		if jobs := abstract.Jobs(l, let, nil, ticks); len(jobs) != n {
			t.Errorf("%d ticks: %v", ticks, jobs)
		}
		if overs := abstract.Overs(l, let, nil, ticks); len(overs) != 0 {
			t.Errorf("%d ticks: %v", ticks, overs)
		}
	}
	if line := abstract.Timeline(nil, let, [][]int{{5}}, 3); !slices.Equal(line, []int{-1, -1, -1}) || len(abstract.Jobs(nil, let, nil, 3)) != 0 || len(abstract.Overs(nil, let, nil, 3)) != 0 {
		t.Error("no tasks")
	}
	if line := abstract.Timeline(l, []due{{}}, [][]int{{math.MaxInt}}, math.MaxInt); abstract.Busy(line, 0) != 65536 {
		t.Error("a job without end has not all ticks")
	}
}

// P30.3: Busy and Response.
func TestBusyAndResponse(t *testing.T) {
	line := []int{0, 2, -1, 2, 2, math.MinInt, math.MaxInt}
	for i, n := range map[int]int{0: 1, 1: 0, 2: 3, -1: 1, math.MinInt: 1, math.MaxInt: 1} {
		if abstract.Busy(line, i) != n || abstract.Busy(nil, i) != 0 {
			t.Errorf("Busy %d", i)
		}
	}
	jobs := []api.Job{
		{Task: 0, Release: 3, End: 5}, {Task: 0, Release: 4, End: 9}, {Task: 0, Release: 6, End: 8}, {Task: 0, End: -1}, {Task: 0, Release: -9, End: -1},
		{Task: 1, Release: 2, End: -1}, {Task: 2, Release: 9, End: 4}, {Task: 3}, {Task: -4, Release: -6}, {Task: 5, Release: 7, End: math.MinInt},
		{Task: 6, Release: 9, End: 1}, {Task: 6, Release: 9, End: 2},
	}
	for _, c := range []struct {
		i, want int
		ok      bool
	}{{0, 5, true}, {1, 0, false}, {2, -5, true}, {3, 0, true}, {-4, 6, true}, {5, 0, false}, {6, -7, true}, {7, 0, false}, {math.MaxInt, 0, false}} {
		if got, ok := abstract.Response(jobs, c.i); got != c.want || ok != c.ok {
			t.Errorf("of %d: %d, %v", c.i, got, ok)
		}
	}
	if got, ok := abstract.Response(nil, 0); got != 0 || ok {
		t.Error("no jobs")
	}
}

// outcome is what is told of a plan.
type outcome struct {
	line  []int
	jobs  []api.Job
	overs []due
}

// told is what the package tells.
func told(l []api.Task, let []due, demand [][]int, ticks int) outcome {
	return outcome{abstract.Timeline(l, let, demand, ticks), abstract.Jobs(l, let, demand, ticks), abstract.Overs(l, let, demand, ticks)}
}

// same tells whether two outcomes are one.
func same(a, b outcome) bool {
	return slices.Equal(a.line, b.line) && slices.Equal(a.jobs, b.jobs) && slices.Equal(a.overs, b.overs)
}

// needs is how many steps a job has.
func needs(demand [][]int, i, n int) int {
	if i < len(demand) && n < len(demand[i]) {
		return max(1, demand[i][n])
	}
	return 1
}

// stepwise is the same plan, tick by tick: who goes ahead of all that have an active job has the tick.
func stepwise(l []api.Task, let []due, demand [][]int, ticks int) outcome {
	var x outcome
	count, active := map[int]int{}, map[int]int{}
	for t := range ticks {
		for i := range l {
			for _, d := range let {
				if d.At != t || d.Task != i {
					continue
				}
				if _, ok := active[i]; ok {
					x.overs = append(x.overs, d)
					continue
				}
				active[i] = len(x.jobs)
				x.jobs = append(x.jobs, api.Job{Task: i, No: count[i], Release: t, Deadline: t + l[i].Deadline, Start: -1, End: -1})
				count[i]++
			}
		}
		first := -1
		for i := range active {
			if first < 0 || task.Ahead(l, i, first) {
				first = i
			}
		}
		x.line = append(x.line, first)
		if first >= 0 {
			j := &x.jobs[active[first]]
			if j.Start < 0 {
				j.Start = t
			}
			j.Steps++
			if j.Steps == needs(demand, first, j.No) {
				j.End = t + 1
				delete(active, first)
			}
		}
	}
	for i, j := range x.jobs {
		x.jobs[i].Missed = j.Deadline < ticks && (j.End < 0 || j.End > j.Deadline)
	}
	return x
}

// demanding are demands, of which some are not there.
func demanding(r *rand.Rand) [][]int {
	l := make([][]int, r.IntN(10))
	for i := range l {
		for range r.IntN(9) {
			l[i] = append(l[i], r.IntN(7)-1)
		}
	}
	return l
}

// P30.2: any tasks, and any releases, in no order and also twice.
func TestPlan(t *testing.T) {
	r := rand.New(rand.NewPCG(30, 2))
	for range 600 {
		ticks := r.IntN(60)
		l := make([]api.Task, r.IntN(12))
		for i := range l {
			l[i] = api.Task{Prio: r.IntN(5) - 2, Deadline: r.IntN(8)}
		}
		let := make([]due, r.IntN(60))
		for i := range let {
			let[i] = due{At: r.IntN(ticks+6) - 3, Task: r.IntN(len(l)+3) - 1}
		}
		demand := demanding(r)
		before := slices.Clone(let)
		if got, want := told(l, let, demand, ticks), stepwise(l, let, demand, ticks); !same(got, want) {
			t.Fatalf("%v, %v, %v, %d:\n%v, not\n%v", l, let, demand, ticks, got, want)
		}
		if !slices.Equal(let, before) {
			t.Fatal("the releases were changed")
		}
	}
}

// some are tasks that a kernel takes.
func some(r *rand.Rand) []api.Task {
	l := make([]api.Task, 1+r.IntN(8))
	for i := range l {
		l[i] = periodic(r.IntN(4), r.IntN(8), 1+r.IntN(20))
		if r.IntN(2) == 0 {
			l[i] = sporadic(r.IntN(4), 1+r.IntN(20))
		}
		l[i].Deadline = 1 + r.IntN(l[i].Period)
	}
	return l
}

// asking are asks, in no order, of all kinds.
func asking(r *rand.Rand, ticks int) []due {
	l := make([]due, r.IntN(60))
	for i := range l {
		l[i] = due{At: r.IntN(ticks+4) - 2, Task: r.IntN(10) - 1}
	}
	return l
}

// whose is whose steps events tell, tick by tick.
func whose(events []api.Event) []int {
	var l []int
	for _, e := range events {
		if e.Kind == api.EvStep || e.Kind == api.EvIdle {
			l = append(l, e.Task)
		}
	}
	return l
}

// kernelled is the jobs and overruns of a kernel's book, put by time, those of one time by task: at one time a kernel releases periodic tasks first.
func kernelled(t *testing.T, l []api.Task, asks []due, demand [][]int, ticks int) ([]api.Job, []due) {
	t.Helper()
	k, e := kernel.New(l)
	if e != api.OK {
		t.Fatal(e)
	}
	steps := map[[2]int]int{}
	for tick := range ticks {
		var asked []int
		for _, d := range asks {
			if d.At == tick {
				asked = append(asked, d.Task)
			}
		}
		k.Open(asked)
		i, no := 0, 0
		if first, ok := k.Pick(); ok {
			i = first
			for _, j := range k.Jobs() {
				if j.Task == i {
					no = j.No
				}
			}
			steps[[2]int{i, no}]++
		}
		k.Close(0, steps[[2]int{i, no}] == needs(demand, i, no))
	}
	jobs, overs := k.Jobs(), k.Overs()
	slices.SortStableFunc(jobs, func(a, b api.Job) int {
		return cmp.Or(cmp.Compare(a.Release, b.Release), cmp.Compare(a.Task, b.Task))
	})
	slices.SortStableFunc(overs, byTime)
	return jobs, overs
}

// P30.4: the plan is what the kernel tells.
func TestAsTheKernel(t *testing.T) {
	r := rand.New(rand.NewPCG(30, 4))
	for range 400 {
		ticks := r.IntN(100)
		l, asks, demand := some(r), asking(r, ticks), demanding(r)
		let, _ := release.All(l, asks, ticks)
		events, _ := kernel.Run(l, asks, demand, ticks)
		jobs, overs := kernelled(t, l, asks, demand, ticks)
		if got, want := told(l, let, demand, ticks), (outcome{whose(events), jobs, overs}); !same(got, want) {
			t.Fatalf("%v, %v, %v, %d:\n%v, not\n%v", l, asks, demand, ticks, got, want)
		}
	}
}

// P5: whoever goes ahead of others is not disturbed by them: without them nothing else comes of it.
func TestNotDisturbed(t *testing.T) {
	r := rand.New(rand.NewPCG(5, 3))
	for range 300 {
		const ticks = 70
		l, demand := some(r), demanding(r)
		let, _ := release.All(l, asking(r, ticks), ticks)
		i := r.IntN(len(l))
		ahead := append(task.Above(l, i), i)
		less := slices.DeleteFunc(slices.Clone(let), func(d due) bool { return !slices.Contains(ahead, d.Task) })
		all, alone := told(l, let, demand, ticks), told(l, less, demand, ticks)
		for at, whose := range all.line {
			if !slices.Contains(ahead, whose) {
				all.line[at] = -1
			}
		}
		all.jobs = slices.DeleteFunc(all.jobs, func(j api.Job) bool { return !slices.Contains(ahead, j.Task) })
		all.overs = slices.DeleteFunc(all.overs, func(d due) bool { return !slices.Contains(ahead, d.Task) })
		if !same(all, alone) {
			t.Fatalf("%v, %v, %v: %d is disturbed", l, let, demand, i)
		}
	}
}

// P5: if all comes later, all comes later by as much.
func TestLater(t *testing.T) {
	r := rand.New(rand.NewPCG(5, 4))
	for range 300 {
		const ticks = 60
		by := r.IntN(30)
		l, demand := some(r), demanding(r)
		let, _ := release.All(l, asking(r, ticks), ticks)
		want := told(l, let, demand, ticks)
		want.line = slices.Concat(slices.Repeat([]int{-1}, by), want.line)
		for i := range want.jobs {
			j := &want.jobs[i]
			j.Release, j.Deadline = j.Release+by, j.Deadline+by
			if j.Start >= 0 {
				j.Start += by
			}
			if j.End >= 0 {
				j.End += by
			}
		}
		for i := range want.overs {
			want.overs[i].At += by
		}
		for i := range let {
			let[i].At += by
		}
		if got := told(l, let, demand, ticks+by); !same(got, want) {
			t.Fatalf("%v, %v, %v: not all later by %d", l, let, demand, by)
		}
	}
}
