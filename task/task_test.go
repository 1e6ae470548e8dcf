package task_test

import (
	"math"
	"math/rand/v2"
	"slices"
	"testing"

	"coxswain/api"
	"coxswain/flow"
	"coxswain/task"
)

// done is the shortest program.
func done() []api.Instr { return []api.Instr{{Op: api.Done}} }

// periodic is a plain periodic task.
func periodic() api.Task {
	return api.Task{Kind: api.Periodic, Prio: 3, Period: 20, Offset: 7, Deadline: 20, Own: 8, Code: done()}
}

// sporadic is a plain sporadic task.
func sporadic() api.Task {
	return api.Task{Kind: api.Sporadic, Prio: 3, Period: 20, Deadline: 20, Own: 8, Code: done()}
}

// prios is tasks of these priorities.
func prios(l ...int) []api.Task {
	tasks := make([]api.Task, len(l))
	for i, p := range l {
		tasks[i].Prio = p
	}
	return tasks
}

// periods is tasks of these periods.
func periods(l ...int) []api.Task {
	tasks := make([]api.Task, len(l))
	for i, p := range l {
		tasks[i].Period = p
	}
	return tasks
}

// P26.2: each number of a plain task, at its bounds, and beyond them.
func TestPlain(t *testing.T) {
	type set func(*api.Task, int)
	prio := func(x *api.Task, n int) { x.Prio = n }
	period := func(x *api.Task, n int) { x.Period, x.Deadline = n, 1 }
	offset := func(x *api.Task, n int) { x.Offset = n }
	deadline := func(x *api.Task, n int) { x.Deadline = n }
	own := func(x *api.Task, n int) { x.Own = n }
	for _, c := range []struct {
		name  string
		set   set
		right []int
		wrong []int
	}{
		{"prio", prio, []int{0, 1, 255}, []int{-1, 256, math.MinInt, math.MaxInt}},
		{"period", period, []int{1, 2, 1 << 20}, []int{0, -1, 1<<20 + 1, math.MinInt, math.MaxInt}},
		{"deadline", deadline, []int{1, 19, 20}, []int{0, -1, 21, math.MinInt, math.MaxInt}},
		{"own", own, []int{1, 64}, []int{0, -1, 65, math.MinInt, math.MaxInt}},
	} {
		for _, x := range []api.Task{periodic(), sporadic()} {
			for _, n := range c.right {
				c.set(&x, n)
				if !task.Plain(x) {
					t.Errorf("kind %d, %s %d: not plain", x.Kind, c.name, n)
				}
			}
			for _, n := range c.wrong {
				c.set(&x, n)
				if task.Plain(x) {
					t.Errorf("kind %d, %s %d: plain", x.Kind, c.name, n)
				}
			}
		}
	}
	for _, n := range []int{0, 1, 19, 20, 21, 1 << 20} {
		x, y := periodic(), sporadic()
		offset(&x, n)
		offset(&y, n)
		if !task.Plain(x) || task.Plain(y) != (n == 0) {
			t.Errorf("offset %d", n)
		}
	}
	for _, n := range []int{-1, 1<<20 + 1, math.MinInt, math.MaxInt} {
		x, y := periodic(), sporadic()
		offset(&x, n)
		offset(&y, n)
		if task.Plain(x) || task.Plain(y) {
			t.Errorf("offset %d", n)
		}
	}
	for _, n := range []int{0, 3, -1, math.MinInt, math.MaxInt} {
		x := sporadic()
		x.Kind = n
		if task.Plain(x) {
			t.Errorf("kind %d: plain", n)
		}
	}
	x := periodic()
	x.Period, x.Deadline = 1<<20, 1<<20
	if !task.Plain(x) {
		t.Error("a deadline as long as the longest period")
	}
	if x = periodic(); !task.Plain(api.Task{Kind: x.Kind, Prio: x.Prio, Period: x.Period, Deadline: x.Deadline, Own: x.Own}) {
		t.Error("plain asks for a program")
	}
}

// P26.2: Fault.
func TestFault(t *testing.T) {
	nop, back := api.Instr{}, func(n uint32) api.Instr { return api.Instr{Op: api.Back, C: 1, N: n} }
	for _, c := range []struct {
		name string
		code []api.Instr
		at   int
		e    api.Errno
	}{
		{"right", done(), -1, api.OK},
		{"of 64", append(make([]api.Instr, 63), done()...), -1, api.OK},
		{"none", nil, 0, api.ErrArg},
		{"of 65", append(make([]api.Instr, 64), done()...), 0, api.ErrArg},
		{"no instruction", []api.Instr{nop, {Op: 22}, done()[0]}, 1, api.ErrForm},
		{"a jump ahead", []api.Instr{nop, nop, {Op: api.Jump, N: 1}, done()[0]}, 2, api.ErrFlow},
		{"loops that overlap", []api.Instr{nop, nop, back(0), back(1), done()[0]}, 3, api.ErrLoop},
		{"without an end", []api.Instr{nop, nop}, 1, api.ErrFlow},
	} {
		for _, x := range []api.Task{periodic(), sporadic()} {
			x.Code = c.code
			if at, e := task.Fault(x); at != c.at || e != c.e {
				t.Errorf("%s: %d, %d", c.name, at, e)
			}
			if at, e := flow.Check(c.code); e != api.OK && (at != c.at || e != c.e) {
				t.Errorf("%s: Check tells %d, %d", c.name, at, e)
			}
			x.Own = 0
			if at, e := task.Fault(x); at != -1 || e != api.ErrArg {
				t.Errorf("%s, and not plain: %d, %d", c.name, at, e)
			}
		}
	}
	if at, e := task.Fault(api.Task{}); at != -1 || e != api.ErrArg {
		t.Error("the zero task")
	}
}

// P26.3: the example, and priorities at the ends of int.
func TestAhead(t *testing.T) {
	l := prios(1, 5, 5)
	if !slices.Equal(task.Above(l, 0), []int{1, 2}) || len(task.Above(l, 1)) != 0 || !slices.Equal(task.Above(l, 2), []int{1}) {
		t.Error("Above")
	}
	if !slices.Equal(task.Ranks(l), []int{2, 0, 1}) {
		t.Error("Ranks")
	}
	l = prios(math.MinInt, math.MaxInt, 0, math.MinInt, math.MaxInt)
	if !slices.Equal(task.Ranks(l), []int{3, 0, 2, 4, 1}) || !slices.Equal(task.Above(l, 3), []int{0, 1, 2, 4}) {
		t.Error("priorities at the ends of int")
	}
	for _, i := range []int{-1, 5, math.MinInt, math.MaxInt} {
		if task.Ahead(l, i, 0) || task.Ahead(l, 0, i) || task.Ahead(l, 1, i) || task.Ahead(l, i, i) || len(task.Above(l, i)) != 0 {
			t.Errorf("%d is no place", i)
		}
	}
	if len(task.Ranks(nil)) != 0 || len(task.Above(nil, 0)) != 0 || task.Ahead(nil, 0, 0) || task.Ahead([]api.Task{}, 0, 1) {
		t.Error("no tasks")
	}
}

// P26.3: Ahead by the chapter's words; Ranks and Above as it tells.
func TestRanksAndAbove(t *testing.T) {
	r := rand.New(rand.NewPCG(26, 3))
	for range 300 {
		l := make([]api.Task, r.IntN(12))
		for i := range l {
			l[i] = api.Task{Prio: r.IntN(5) - 1, Period: r.IntN(9)}
		}
		ranks := task.Ranks(l)
		if len(ranks) != len(l) {
			t.Fatal("Ranks are not as many as tasks")
		}
		for i := range l {
			var above []int
			for a := range l {
				ahead := l[a].Prio > l[i].Prio || l[a].Prio == l[i].Prio && a < i
				if task.Ahead(l, a, i) != ahead {
					t.Fatalf("%v: %d ahead of %d", l, a, i)
				}
				if ahead {
					above = append(above, a)
				}
			}
			if !slices.Equal(task.Above(l, i), above) || ranks[i] != len(above) {
				t.Fatalf("%v: above %d: %v, rank %d", l, i, task.Above(l, i), ranks[i])
			}
		}
	}
}

// P26.5: of two just one goes ahead; and it leads on.
func TestAheadIsAnOrder(t *testing.T) {
	l := prios(3, 1, 3, 0, 255, 255, -7, 1, 3)
	for a := range l {
		if task.Ahead(l, a, a) {
			t.Errorf("%d goes ahead of itself", a)
		}
		for b := range l {
			if a != b && task.Ahead(l, a, b) == task.Ahead(l, b, a) {
				t.Errorf("of %d and %d both go ahead, or none", a, b)
			}
			for c := range l {
				if task.Ahead(l, a, b) && task.Ahead(l, b, c) && !task.Ahead(l, a, c) {
					t.Errorf("%d ahead of %d, that of %d", a, b, c)
				}
			}
		}
	}
}

// P26.4: Hyper.
func TestHyper(t *testing.T) {
	for _, c := range []struct {
		l    []int
		want int
	}{
		{nil, 0}, {[]int{7}, 7}, {[]int{4, 6, 1}, 12}, {[]int{1, 1}, 1}, {[]int{2, 3, 5, 7, 11}, 2310},
		{[]int{0}, 0}, {[]int{4, 0}, 0}, {[]int{0, 4}, 0}, {[]int{-4}, 0}, {[]int{4, -6, 8}, 0}, {[]int{math.MinInt, 1}, 0},
		{[]int{1 << 20, 1<<20 - 1}, 1<<40 - 1<<20}, {[]int{1 << 20, 1<<20 - 1, 1<<20 - 3}, api.Top},
		{[]int{1 << 40}, api.Top}, {[]int{1<<40 + 1}, api.Top}, {[]int{math.MaxInt}, api.Top}, {[]int{math.MaxInt, math.MaxInt - 1}, api.Top},
		{[]int{1<<40 + 1, 3}, api.Top}, {[]int{3, 1<<40 - 1}, 1<<40 - 1}, {[]int{1<<20 + 1, 1<<20 - 1, 7, 0}, 0}, {[]int{math.MaxInt, 3, 5, -1}, 0},
	} {
		if n := task.Hyper(periods(c.l...)); n != c.want {
			t.Errorf("%v: %d, not %d", c.l, n, c.want)
		}
	}
	r := rand.New(rand.NewPCG(26, 4))
	for range 200 {
		l := make([]int, 1+r.IntN(4))
		for i := range l {
			l[i] = 1 + r.IntN(12)
		}
		least := 1
		for slices.ContainsFunc(l, func(p int) bool { return least%p != 0 }) {
			least++
		}
		if n := task.Hyper(periods(l...)); n != least {
			t.Errorf("%v: %d, not %d", l, n, least)
		}
	}
}

// P26.4: a copy is the same, and apart.
func TestCopy(t *testing.T) {
	x := periodic()
	x.Code = append(make([]api.Instr, 3, 9), done()...)
	c := task.Copy(x)
	if !task.Same(x, c) || !task.Same(c, x) {
		t.Fatalf("%v is not %v", c, x)
	}
	c.Code[0].Op = api.Done
	if x.Code[0].Op != api.Nop || task.Same(x, c) {
		t.Error("the copy is not apart")
	}
	_ = append(task.Copy(x).Code, api.Instr{Op: api.Mul})
	if x.Code[:5][4].Op != api.Nop {
		t.Error("the copy has room in common with what was copied")
	}
	if z := task.Copy(api.Task{}); !task.Same(z, api.Task{}) {
		t.Error("the zero task")
	}
}

// P26.4: Same looks at each part.
func TestSame(t *testing.T) {
	changes := []func(*api.Task){
		func(x *api.Task) { x.Kind++ }, func(x *api.Task) { x.Prio++ }, func(x *api.Task) { x.Period++ },
		func(x *api.Task) { x.Offset++ }, func(x *api.Task) { x.Deadline++ }, func(x *api.Task) { x.Own++ },
		func(x *api.Task) { x.Code[0].Op = api.Nop }, func(x *api.Task) { x.Code[0].A++ }, func(x *api.Task) { x.Code[0].B++ },
		func(x *api.Task) { x.Code[0].C++ }, func(x *api.Task) { x.Code[0].N++ },
		func(x *api.Task) { x.Code = nil }, func(x *api.Task) { x.Code = append(x.Code, api.Instr{}) },
	}
	for i, change := range changes {
		x := periodic()
		change(&x)
		if task.Same(x, periodic()) || task.Same(periodic(), x) || !task.Same(x, task.Copy(x)) {
			t.Errorf("change %d", i)
		}
	}
	if !task.Same(api.Task{Code: []api.Instr{}}, api.Task{}) {
		t.Error("an empty program is none")
	}
}

// P26.1: what is handed in is not changed, and what is told is new memory.
func TestPure(t *testing.T) {
	l := []api.Task{periodic(), sporadic(), periodic()}
	want := []api.Task{periodic(), sporadic(), periodic()}
	for range 2 {
		task.Ranks(l)[0] = 9
		task.Above(l, 2)[0] = 9
		task.Hyper(l)
		task.Fault(l[0])
	}
	if !slices.EqualFunc(l, want, task.Same) || !slices.Equal(task.Above(l, 2), []int{0, 1}) || !slices.Equal(task.Ranks(l), []int{0, 1, 2}) {
		t.Error("changed")
	}
}
