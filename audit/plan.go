package audit

import (
	"cmp"
	"slices"

	"coxswain/abstract"
	"coxswain/api"
	"coxswain/pick"
	"coxswain/release"
	"coxswain/script"
)

// endless is how many steps a job takes that has not ended: more than a run has ticks.
const endless = 1 << 20

// number is a job, by its task and its number.
type number struct{ task, no int }

// tally is how many events of a kind tell each job.
func tally(l []api.Event, kind int) map[number]int {
	told := map[number]int{}
	for e := range pick.Kinds(l, kind) {
		told[number{e.Task, e.A}]++
	}
	return told
}

// lengths is how many jobs each of so many tasks has, up to the last one that had a step.
func lengths(tasks int, l []api.Event) []int {
	jobs := make([]int, tasks)
	for e := range pick.Kinds(l, api.EvStep) {
		if e.Task >= 0 && e.Task < tasks && e.A >= 0 && e.A <= api.MaxTicks {
			jobs[e.Task] = max(jobs[e.Task], e.A+1)
		}
	}
	return jobs
}

// Demands is how many steps all jobs had.
func Demands(tasks int, l []api.Event) [][]int {
	tasks = min(max(tasks, 0), api.MaxTasks)
	steps, ends := tally(l, api.EvStep), tally(l, api.EvDone)
	demands := make([][]int, tasks)
	for i, jobs := range lengths(tasks, l) {
		demands[i] = make([]int, jobs)
		for no := range demands[i] {
			demands[i][no] = endless
			if ends[number{i, no}] > 0 {
				demands[i][no] = steps[number{i, no}]
			}
		}
	}
	return demands
}

// plan is what must come of a run: whose each tick is, its jobs, and what comes while the job ahead has no end.
type plan struct {
	whose []int
	jobs  []api.Job
	overs []api.Due
}

// planOf is the plan of so many ticks, of the releases that acts lead to.
func planOf(l []api.Task, acts []api.Act, demand [][]int) plan {
	ticks := script.Ticks(acts)
	let, _ := release.All(l, script.Asks(acts), ticks)
	return plan{
		whose: abstract.Timeline(l, let, demand, ticks),
		jobs:  abstract.Jobs(l, let, demand, ticks),
		overs: abstract.Overs(l, let, demand, ticks),
	}
}

// told is the events of all things that have one.
func told[T any](l []T, event func(T) (api.Event, bool)) []api.Event {
	var came []api.Event
	for _, x := range l {
		if e, ok := event(x); ok {
			came = append(came, e)
		}
	}
	return came
}

// released is the releases of all jobs.
func (p plan) released() []api.Event {
	return told(p.jobs, func(j api.Job) (api.Event, bool) {
		return api.Event{T: j.Release, Kind: api.EvRelease, Task: j.Task, A: j.No}, true
	})
}

// overrun is the releases that led to no job.
func (p plan) overrun() []api.Event {
	return told(p.overs, func(d api.Due) (api.Event, bool) {
		return api.Event{T: d.At, Kind: api.EvOver, Task: d.Task}, true
	})
}

// missed is the deadlines that were missed.
func (p plan) missed() []api.Event {
	return told(p.jobs, func(j api.Job) (api.Event, bool) {
		return api.Event{T: j.Deadline, Kind: api.EvMiss, Task: j.Task, A: j.No}, j.Missed
	})
}

// ended is the ends of all jobs that have one.
func (p plan) ended() []api.Event {
	return told(p.jobs, func(j api.Job) (api.Event, bool) {
		return api.Event{T: j.End - 1, Kind: api.EvDone, Task: j.Task, A: j.No, B: j.End - j.Release}, j.End >= 0
	})
}

// inOrder is below 0 if a comes ahead of b: kind by kind, by time, and of one time by task.
func inOrder(a, b api.Event) int {
	return cmp.Or(cmp.Compare(a.Kind, b.Kind), cmp.Compare(a.T, b.T), cmp.Compare(a.Task, b.Task))
}

// must is what must have come beside the steps, in order.
func (p plan) must() []api.Event {
	var l []api.Event
	for _, kind := range []func(plan) []api.Event{plan.released, plan.overrun, plan.missed, plan.ended} {
		l = append(l, kind(p)...)
	}
	slices.SortFunc(l, inOrder)
	return l
}

// ticks tells whether just one step, or idle tick, came for each tick, of whom the plan says.
func (p plan) ticks(l []api.Event) bool {
	t := 0
	for e := range pick.Kinds(l, api.EvStep, api.EvIdle) {
		if t == len(p.whose) || e.T != t || e.Task != p.whose[t] {
			return false
		}
		t++
	}
	return t == len(p.whose)
}

// Refines tells whether a run is that of the plan.
func Refines(s api.System, acts []api.Act, l []api.Event) bool {
	if !script.Right(acts) {
		return false
	}
	p := planOf(s.Tasks, acts, Demands(len(s.Tasks), l))
	came := slices.SortedFunc(pick.Kinds(l, api.EvRelease, api.EvOver, api.EvMiss, api.EvDone), inOrder)
	// Of one kind, time and task the plan has no two events, so it does not matter in which order they come.
	return p.ticks(l) && slices.Equal(came, p.must())
}
