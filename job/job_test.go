package job_test

import (
	"math"
	"math/rand/v2"
	"slices"
	"testing"

	"coxswain/api"
	"coxswain/bitmap"
	"coxswain/job"
)

// tasks are tasks of these deadlines.
func tasks(deadlines ...int) []api.Task {
	l := make([]api.Task, len(deadlines))
	for i, d := range deadlines {
		l[i].Deadline = d
	}
	return l
}

// holds fails if a book's jobs are not these.
func holds(t *testing.T, x *job.Ledger, want ...api.Job) {
	t.Helper()
	if l := x.Jobs(); !slices.Equal(l, want) {
		t.Fatalf("%v, not %v", l, want)
	}
}

// P28.1: a nil book has nothing.
func TestNilBook(t *testing.T) {
	var x *job.Ledger
	if no, ok := x.Release(0, 0); no != 0 || ok {
		t.Error("Release")
	}
	if x.Step(0, 0) {
		t.Error("Step")
	}
	if j, ok := x.End(0, 0); j != (api.Job{}) || ok {
		t.Error("End")
	}
	if j, ok := x.Job(0); j != (api.Job{}) || ok {
		t.Error("Job")
	}
	if len(x.Late(math.MaxInt)) != 0 || x.Active() != 0 || len(x.Jobs()) != 0 || len(x.Overs()) != 0 || x.Clone() != nil {
		t.Error("a nil book has something")
	}
}

// P28.2: a book of tasks has no jobs, and none of others.
func TestNew(t *testing.T) {
	for _, l := range [][]api.Task{nil, {}, tasks(5), make([]api.Task, 64), make([]api.Task, 65), make([]api.Task, 200)} {
		x := job.New(l)
		if x == nil || x.Active() != 0 || len(x.Jobs()) != 0 || len(x.Overs()) != 0 || len(x.Late(9)) != 0 {
			t.Fatalf("a book of %d tasks", len(l))
		}
		for _, i := range []int{math.MinInt, -1, min(len(l), 64), 64, 65, 199, 200, math.MaxInt} {
			if no, ok := x.Release(i, 3); no != 0 || ok {
				t.Errorf("of %d tasks, %d is released", len(l), i)
			}
			if x.Step(i, 3) || x.Active() != 0 || len(x.Jobs()) != 0 || len(x.Overs()) != 0 {
				t.Errorf("of %d tasks, %d is there", len(l), i)
			}
			_, job := x.Job(i)
			_, end := x.End(i, 3)
			if job || end {
				t.Errorf("of %d tasks, %d has a job", len(l), i)
			}
		}
		for i := range min(len(l), 64) {
			if no, ok := x.Release(i, 3); no != 0 || !ok || bitmap.Count(x.Active()) != i+1 {
				t.Errorf("of %d tasks, %d is not released", len(l), i)
			}
		}
	}
}

// P28.2: the example, the job's parts, and what is noted.
func TestRelease(t *testing.T) {
	x := job.New(tasks(5, 2))
	if no, ok := x.Release(0, 3); no != 0 || !ok {
		t.Fatal("the first one")
	}
	first := api.Job{Release: 3, Deadline: 8, Start: -1, End: -1}
	holds(t, x, first)
	if !slices.Equal(x.Late(8), []int{0}) || len(x.Late(8)) != 0 {
		t.Error("Late")
	}
	if no, ok := x.Release(0, 4); no != 0 || ok {
		t.Error("while one is active")
	}
	if no, ok := x.Release(1, 4); no != 0 || !ok {
		t.Error("of another task")
	}
	if no, ok := x.Release(0, 4); no != 0 || ok || !slices.Equal(x.Overs(), []api.Due{{At: 4}, {At: 4}}) {
		t.Error("noted twice")
	}
	x.End(0, 6)
	if no, ok := x.Release(0, 7); no != 1 || !ok {
		t.Error("the second one: what was only noted is no job")
	}
	first.End, first.Missed = 7, true
	holds(t, x, first, api.Job{Task: 1, Release: 4, Deadline: 6, Start: -1, End: -1}, api.Job{No: 1, Release: 7, Deadline: 12, Start: -1, End: -1})
}

// P28.2: times, and deadlines, are brought between 0 and Top, as their sum.
func TestTimes(t *testing.T) {
	for _, c := range []struct{ deadline, at, release, due int }{
		{5, 0, 0, 5}, {0, 7, 7, 7}, {-5, 7, 7, 7}, {5, -7, 0, 5}, {math.MinInt, math.MinInt, 0, 0}, {api.Top, 0, 0, api.Top},
		{1, api.Top, api.Top, api.Top}, {1, api.Top - 1, api.Top - 1, api.Top}, {math.MaxInt, 3, 3, api.Top}, {5, math.MaxInt, api.Top, api.Top}, {math.MaxInt, math.MaxInt, api.Top, api.Top},
	} {
		x := job.New(tasks(c.deadline))
		x.Release(0, c.at)
		holds(t, x, api.Job{Release: c.release, Deadline: c.due, Start: -1, End: -1})
		x.Release(0, c.at)
		if !slices.Equal(x.Overs(), []api.Due{{At: c.release}}) {
			t.Errorf("%v: Overs %v", c, x.Overs())
		}
		x.Step(0, c.at)
		if j, _ := x.End(0, c.at); j.Start != c.release || j.End != min(c.release+1, api.Top) {
			t.Errorf("%v: %v", c, j)
		}
	}
	x := job.New(tasks(0, math.MaxInt))
	x.Release(0, 0)
	x.Release(1, 0)
	if !slices.Equal(x.Late(math.MinInt), []int{0}) || !slices.Equal(x.Late(math.MaxInt), []int{1}) {
		t.Error("Late")
	}
}

// P28.3: Step and End.
func TestStepAndEnd(t *testing.T) {
	x := job.New(tasks(5, 5))
	if x.Step(0, 3) {
		t.Error("a step without a job")
	}
	x.Release(0, 0)
	for _, at := range []int{4, 3, 9} {
		if !x.Step(0, at) {
			t.Error("no step")
		}
	}
	holds(t, x, api.Job{Deadline: 5, Start: 4, End: -1, Steps: 3})
	if j, ok := x.End(1, 9); j != (api.Job{}) || ok || x.Step(1, 9) {
		t.Error("of another task")
	}
	want := api.Job{Deadline: 5, Start: 4, End: 10, Steps: 3}
	if j, ok := x.End(0, 9); j != want || !ok {
		t.Error(j)
	}
	if j, ok := x.End(0, 9); j != (api.Job{}) || ok || x.Step(0, 9) || x.Active() != 0 {
		t.Error("ended twice, or a step behind the end")
	}
	holds(t, x, want)
	x.Release(0, 20)
	if j, ok := x.End(0, 20); !ok || j != (api.Job{No: 1, Release: 20, Deadline: 25, Start: -1, End: 21}) {
		t.Error("a job without steps ends too:", j)
	}
}

// P28.3: Late looks at active jobs that are not Missed, and at no others.
func TestLate(t *testing.T) {
	x := job.New(tasks(5, 3, 5, 9, 1))
	for _, i := range []int{3, 2, 1, 0} {
		x.Release(i, 10)
	}
	if l := x.Late(12); len(l) != 0 {
		t.Error(l)
	}
	if l := x.Late(13); !slices.Equal(l, []int{1}) {
		t.Error(l)
	}
	x.End(0, 13)
	if l := x.Late(17); !slices.Equal(l, []int{2}) {
		t.Error("an ended job, or one that was told:", l)
	}
	x.Release(4, 17)
	if l := x.Late(100); !slices.Equal(l, []int{3, 4}) {
		t.Error("they do not rise:", l)
	}
	jobs := 0
	for _, j := range x.Jobs() {
		if j.Missed != (j.Task != 0) {
			t.Error(j)
		}
		jobs++
	}
	if j, _ := x.Job(3); !j.Missed || jobs != 5 {
		t.Error("Job tells it not")
	}
}

// model is a book, by the chapter's words: all that there is, in lists.
type model struct {
	deadlines []int
	jobs      []api.Job
	overs     []api.Due
}

// find is the place of a task's active job, or -1. (Here jobs' ends are above 0.)
func (m *model) find(i int) int {
	return slices.IndexFunc(m.jobs, func(j api.Job) bool { return j.Task == i && j.End < 0 })
}

func (m *model) release(i, t int) (int, bool) {
	if m.find(i) >= 0 {
		m.overs = append(m.overs, api.Due{At: t, Task: i})
		return 0, false
	}
	no := 0
	for _, j := range m.jobs {
		if j.Task == i {
			no++
		}
	}
	m.jobs = append(m.jobs, api.Job{Task: i, No: no, Release: t, Deadline: t + m.deadlines[i], Start: -1, End: -1})
	return no, true
}

func (m *model) step(i, t int) bool {
	at := m.find(i)
	if at < 0 {
		return false
	}
	if m.jobs[at].Steps == 0 {
		m.jobs[at].Start = t
	}
	m.jobs[at].Steps++
	return true
}

func (m *model) end(i, t int) (api.Job, bool) {
	at := m.find(i)
	if at < 0 {
		return api.Job{}, false
	}
	m.jobs[at].End = t + 1
	return m.jobs[at], true
}

func (m *model) late(t int) []int {
	var l []int
	for at, j := range m.jobs {
		if j.End < 0 && !j.Missed && j.Deadline <= t {
			m.jobs[at].Missed = true
			l = append(l, j.Task)
		}
	}
	slices.Sort(l)
	return l
}

// act does one thing to a book and to its model, and tells whether both answer the same.
func act(r *rand.Rand, x *job.Ledger, m *model, t int) bool {
	i := r.IntN(len(m.deadlines))
	switch r.IntN(5) {
	case 0, 1:
		no, ok := x.Release(i, t)
		wantNo, want := m.release(i, t)
		return no == wantNo && ok == want
	case 2:
		return x.Step(i, t) == m.step(i, t)
	case 3:
		j, ok := x.End(i, t)
		wantJob, want := m.end(i, t)
		return j == wantJob && ok == want
	}
	return slices.Equal(x.Late(t), m.late(t))
}

// same tells whether a book tells what its model has.
func same(x *job.Ledger, m *model) bool {
	var active uint64
	for i := range m.deadlines {
		var want api.Job
		at := m.find(i)
		if at >= 0 {
			active |= 1 << i
			want = m.jobs[at]
		}
		if j, ok := x.Job(i); j != want || ok != (at >= 0) {
			return false
		}
	}
	return x.Active() == active && slices.Equal(x.Jobs(), m.jobs) && slices.Equal(x.Overs(), m.overs)
}

// P28.2 to P28.4: a book, and clones of it, against models.
func TestBook(t *testing.T) {
	r := rand.New(rand.NewPCG(28, 4))
	for range 100 {
		var deadlines []int
		for range 1 + r.IntN(12) {
			deadlines = append(deadlines, r.IntN(9))
		}
		l := tasks(deadlines...)
		x, m := job.New(l), &model{deadlines: deadlines}
		// What the book was made of is the caller's again.
		for i := range l {
			l[i].Deadline = 1000
		}
		for time := range 120 {
			if !act(r, x, m, time) || !same(x, m) {
				t.Fatalf("at %d: %v, not %v", time, x.Jobs(), m.jobs)
			}
			if r.IntN(20) > 0 {
				continue
			}
			c, n := x.Clone(), &model{deadlines: deadlines, jobs: slices.Clone(m.jobs), overs: slices.Clone(m.overs)}
			for more := range 20 {
				if !act(r, c, n, time+more) {
					t.Fatal("a clone is another book")
				}
			}
			if !same(c, n) || !same(x, m) {
				t.Fatal("a clone is not apart")
			}
		}
	}
}

// P28.4: of the 64th task, too; what is told is new memory.
func TestTold(t *testing.T) {
	x := job.New(make([]api.Task, 64))
	x.Release(63, 1)
	x.Release(0, 2)
	x.Release(63, 3)
	x.Release(0, 4)
	if x.Active() != 1<<63|1 {
		t.Error("Active")
	}
	x.Jobs()[0].Task = 5
	x.Overs()[0].Task = 5
	_ = append(x.Jobs(), api.Job{})
	if x.Jobs()[0].Task != 63 || x.Overs()[0].Task != 63 || x.Jobs()[1].Task != 0 {
		t.Error("what is told is the book's own")
	}
	late := x.Late(9)
	if !slices.Equal(late, []int{0, 63}) {
		t.Error(late)
	}
}
