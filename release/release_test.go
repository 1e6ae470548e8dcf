package release_test

import (
	"cmp"
	"math"
	"math/rand/v2"
	"slices"
	"testing"

	"coxswain/api"
	"coxswain/release"
	"coxswain/task"
)

type due = api.Due

// dues are dues, of each its time and its task.
func dues(l [][2]int) []due {
	var all []due
	for _, x := range l {
		all = append(all, due{At: x[0], Task: x[1]})
	}
	return all
}

// periodic is a plain periodic task.
func periodic(offset, period int) api.Task {
	return api.Task{Kind: api.Periodic, Period: period, Offset: offset, Deadline: 1, Own: 1}
}

// sporadic is a plain sporadic task.
func sporadic(period int) api.Task {
	return api.Task{Kind: api.Sporadic, Period: period, Deadline: 1, Own: 1}
}

// unreleased are tasks that are not plain, or not periodic.
func unreleased() []api.Task {
	l := []api.Task{{}, sporadic(4), periodic(0, 0), periodic(0, -4), periodic(-1, 4), periodic(0, 1<<20+1), periodic(1<<20+1, 4), periodic(0, math.MaxInt), periodic(math.MinInt, 1)}
	x := periodic(0, 4)
	x.Deadline = 5
	y := periodic(0, 4)
	y.Own = 0
	z := periodic(0, 4)
	z.Kind = 3
	return append(l, x, y, z)
}

// P27.1: of a task that is not plain, or not periodic, there is nothing.
func TestNoTimes(t *testing.T) {
	for i, x := range unreleased() {
		for _, n := range []int{math.MinInt, -4, -1, 0, 4, 8, api.Top, math.MaxInt} {
			if release.At(x, n) {
				t.Errorf("task %d: At %d", i, n)
			}
			if next, ok := release.Next(x, n); next != 0 || ok {
				t.Errorf("task %d: Next from %d: %d", i, n, next)
			}
			if c := release.Count(x, n, math.MaxInt) + release.Count(x, 0, n); c != 0 {
				t.Errorf("task %d: Count %d", i, c)
			}
		}
	}
}

// P27.2: At, Next and Count by the chapter's words.
func TestTimes(t *testing.T) {
	const end = 60
	for _, offset := range []int{0, 1, 5, 20} {
		for _, period := range []int{1, 2, 3, 7, 40} {
			x := periodic(offset, period)
			is := map[int]int{}
			for time := offset; time < 2*end+period; time += period {
				is[time] = 1
			}
			for n := -5; n < end; n++ {
				if release.At(x, n) != (is[n] == 1) {
					t.Fatalf("%d, %d: At %d", offset, period, n)
				}
				next := max(n, 0)
				for is[next] == 0 {
					next++
				}
				if got, ok := release.Next(x, n); got != next || !ok {
					t.Fatalf("%d, %d: Next %d: %d, not %d", offset, period, n, got, next)
				}
				count := 0
				for to := n; to < end; to++ {
					if got := release.Count(x, n, to); got != count {
						t.Fatalf("%d, %d: Count from %d to %d: %d, not %d", offset, period, n, to, got, count)
					}
					count += is[to]
				}
			}
		}
	}
}

// P27.2: no time is above Top.
func TestTop(t *testing.T) {
	for _, c := range []struct{ offset, period, last int }{
		{0, 1 << 20, api.Top}, {1, 1 << 20, api.Top - 1<<20 + 1}, {1 << 20, 1 << 20, api.Top}, {0, 1, api.Top}, {5, 7, api.Top - (api.Top-5)%7},
	} {
		x := periodic(c.offset, c.period)
		if !release.At(x, c.last) || release.At(x, c.last+c.period) {
			t.Errorf("%v: At", c)
		}
		if next, ok := release.Next(x, c.last); next != c.last || !ok {
			t.Errorf("%v: Next from the last one: %d", c, next)
		}
		for _, from := range []int{c.last + 1, api.Top + 1, math.MaxInt - 1, math.MaxInt} {
			if next, ok := release.Next(x, from); next != 0 || ok {
				t.Errorf("%v: Next from %d: %d", c, from, next)
			}
			if n := release.Count(x, from, math.MaxInt); n != 0 {
				t.Errorf("%v: Count from %d: %d", c, from, n)
			}
		}
		all := (c.last-c.offset)/c.period + 1
		for _, to := range []int{c.last + 1, api.Top + 1, math.MaxInt} {
			if n := release.Count(x, math.MinInt, to); n != all {
				t.Errorf("%v: Count to %d: %d, not %d", c, to, n, all)
			}
		}
		if n := release.Count(x, 0, c.last); n != all-1 {
			t.Errorf("%v: Count below the last one: %d", c, n)
		}
		if next, ok := release.Next(x, math.MinInt); next != c.offset || !ok {
			t.Errorf("%v: the first one: %d", c, next)
		}
		if release.Count(x, math.MaxInt, math.MinInt) != 0 || release.Count(x, 50, 50) != 0 || release.At(x, math.MinInt) || release.At(x, math.MaxInt) {
			t.Errorf("%v: nothing lies there", c)
		}
	}
}

// filtered is what Filter promises, by the chapter's words.
func filtered(period int, asks []int) (let, refused []int) {
	for _, time := range asks {
		ok := period >= 1 && time >= 0
		for _, ahead := range let {
			ok = ok && time >= ahead
		}
		if n := len(let); ok && n > 0 {
			ok = time-let[n-1] >= period
		}
		if ok {
			let = append(let, time)
		} else {
			refused = append(refused, time)
		}
	}
	return let, refused
}

// P27.3: Filter.
func TestFilter(t *testing.T) {
	for _, c := range []struct {
		period             int
		asks, let, refused []int
	}{
		{5, []int{0, 3, 5, 9, 10}, []int{0, 5, 10}, []int{3, 9}},
		{5, nil, nil, nil},
		{5, []int{-1, 2, 1, 6, 7}, []int{2, 7}, []int{-1, 1, 6}},
		{1, []int{4, 4, 5, 4, 6}, []int{4, 5, 6}, []int{4, 4}},
		{3, []int{9, 0, 3, 6, 9, 12}, []int{9, 12}, []int{0, 3, 6, 9}},
		{0, []int{0, 1, 2}, nil, []int{0, 1, 2}},
		{-3, []int{0, 1, -2}, nil, []int{0, 1, -2}},
		{math.MinInt, []int{0}, nil, []int{0}},
		{math.MaxInt, []int{0, math.MaxInt - 1, math.MaxInt, 1}, []int{0, math.MaxInt}, []int{math.MaxInt - 1, 1}},
		{1, []int{math.MinInt, math.MaxInt, math.MinInt, 0}, []int{math.MaxInt}, []int{math.MinInt, math.MinInt, 0}},
	} {
		asks := slices.Clone(c.asks)
		let, refused := release.Filter(c.period, asks)
		if !slices.Equal(let, c.let) || !slices.Equal(refused, c.refused) || !slices.Equal(asks, c.asks) {
			t.Errorf("%d, %v: %v, %v", c.period, c.asks, let, refused)
		}
	}
	r := rand.New(rand.NewPCG(27, 3))
	for range 500 {
		asks := make([]int, r.IntN(20))
		for i := range asks {
			asks[i] = r.IntN(30) - 3 + i
		}
		period := r.IntN(8)
		let, refused := release.Filter(period, asks)
		wantLet, wantRefused := filtered(period, asks)
		if !slices.Equal(let, wantLet) || !slices.Equal(refused, wantRefused) {
			t.Fatalf("%d, %v: %v, %v", period, asks, let, refused)
		}
	}
}

// inOrder is below 0 if a comes ahead of b.
func inOrder(a, b due) int {
	return cmp.Or(cmp.Compare(a.At, b.At), cmp.Compare(a.Task, b.Task))
}

// all is what All promises, tick by tick, by the chapter's words.
func all(l []api.Task, asks []due, ticks int) (let, refused []due) {
	last := map[int]int{}
	var early, late []due
	for _, d := range asks {
		if d.At < 0 {
			early = append(early, d)
		} else if d.At >= ticks {
			late = append(late, d)
		}
	}
	for t := range max(ticks, 0) {
		for _, i := range asked(asks, t) {
			passed, ok := last[i]
			if i < 0 || i >= len(l) || l[i].Kind != api.Sporadic || !task.Plain(l[i]) || ok && t < passed+l[i].Period {
				refused = append(refused, due{At: t, Task: i})
				continue
			}
			last[i] = t
			let = append(let, due{At: t, Task: i})
		}
		for i, x := range l {
			if task.Plain(x) && x.Kind == api.Periodic && t >= x.Offset && (t-x.Offset)%x.Period == 0 {
				let = append(let, due{At: t, Task: i})
			}
		}
	}
	slices.SortFunc(let, inOrder)
	slices.SortFunc(early, inOrder)
	slices.SortFunc(late, inOrder)
	return let, slices.Concat(early, refused, late)
}

// asked is who is asked for at a time, rising.
func asked(asks []due, t int) []int {
	var l []int
	for _, d := range asks {
		if d.At == t {
			l = append(l, d.Task)
		}
	}
	slices.Sort(l)
	return l
}

// some are tasks, plain ones and others.
func some(r *rand.Rand) []api.Task {
	l := make([]api.Task, r.IntN(6))
	for i := range l {
		l[i] = periodic(r.IntN(6), 1+r.IntN(7))
		if r.IntN(2) == 0 {
			l[i] = sporadic(1 + r.IntN(7))
		}
		if r.IntN(5) == 0 {
			l[i].Own = 0
		}
	}
	return l
}

// asking are asks, in no order.
func asking(r *rand.Rand, ticks int) []due {
	l := make([]due, r.IntN(30))
	for i := range l {
		l[i] = due{At: r.IntN(ticks+6) - 3, Task: r.IntN(9) - 1}
	}
	return l
}

// P27.4: All, of tasks and asks of all kinds.
func TestAll(t *testing.T) {
	r := rand.New(rand.NewPCG(27, 4))
	for range 500 {
		ticks := r.IntN(30)
		l, asks := some(r), asking(r, ticks)
		before := slices.Clone(asks)
		let, refused := release.All(l, asks, ticks)
		wantLet, wantRefused := all(l, asks, ticks)
		if !slices.Equal(let, wantLet) || !slices.Equal(refused, wantRefused) {
			t.Fatalf("%v, %v, %d:\n%v, %v, not\n%v, %v", l, asks, ticks, let, refused, wantLet, wantRefused)
		}
		if !slices.Equal(asks, before) {
			t.Fatal("the asks were changed")
		}
	}
}

// P27.4: why an ask is refused, and that one that is refused keeps none out.
func TestRefused(t *testing.T) {
	strange := sporadic(3)
	strange.Offset = 1
	l := []api.Task{periodic(1, 4), sporadic(3), strange}
	asks := dues([][2]int{{9, 1}, {2, 1}, {0, 1}, {3, 1}, {-1, 1}, {3, 0}, {3, 2}, {3, 3}, {3, -1}, {10, 1}, {0, 1}, {math.MaxInt, 1}, {math.MinInt, 1}, {1, math.MaxInt}, {1, math.MinInt}})
	let, refused := release.All(l, asks, 10)
	if !slices.Equal(let, dues([][2]int{{0, 1}, {1, 0}, {3, 1}, {5, 0}, {9, 0}, {9, 1}})) {
		t.Error(let)
	}
	want := dues([][2]int{{math.MinInt, 1}, {-1, 1}, {0, 1}, {1, math.MinInt}, {1, math.MaxInt}, {2, 1}, {3, -1}, {3, 0}, {3, 2}, {3, 3}, {10, 1}, {math.MaxInt, 1}})
	if !slices.Equal(refused, want) {
		t.Error(refused)
	}
	for _, ticks := range []int{0, -1, math.MinInt} {
		let, refused := release.All(l, asks, ticks)
		if len(let) != 0 || len(refused) != len(asks) || !slices.IsSortedFunc(refused, inOrder) {
			t.Errorf("%d ticks: %v, %v", ticks, let, refused)
		}
	}
	if let, refused := release.All(nil, nil, 10); len(let) != 0 || len(refused) != 0 {
		t.Error("no tasks, no asks")
	}
	// No time of a periodic task is above Top; an ask has no such bound.
	let, _ = release.All([]api.Task{periodic(1<<20, 1<<20), sporadic(1)}, dues([][2]int{{math.MaxInt - 1, 1}}), math.MaxInt)
	if n := len(let); n != 1<<20+1 || let[n-2] != (due{At: api.Top}) || let[n-1] != (due{At: math.MaxInt - 1, Task: 1}) {
		t.Error("a run without end")
	}
}

// P27.5: of one task two releases are never nearer than Period.
func TestApart(t *testing.T) {
	r := rand.New(rand.NewPCG(27, 5))
	for range 300 {
		const ticks = 40
		l := some(r)
		let, _ := release.All(l, append(asking(r, ticks), asking(r, ticks)...), ticks)
		last := map[int]due{}
		for _, d := range let {
			if ahead, ok := last[d.Task]; ok && d.At-ahead.At < l[d.Task].Period {
				t.Fatalf("%v: %v and %v", l, ahead, d)
			}
			last[d.Task] = d
		}
		for i, x := range l {
			for from := range ticks {
				for n := 1; n < 4; n++ {
					if c := within(let, i, from, from+n*x.Period); x.Period > 0 && c > n {
						t.Fatalf("%v: %d releases in %d periods", x, c, n)
					}
				}
			}
		}
	}
}

// within is how many releases of a task come from from on, and below to.
func within(let []due, i, from, to int) int {
	n := 0
	for _, d := range let {
		if d.Task == i && d.At >= from && d.At < to {
			n++
		}
	}
	return n
}

// P27.1: answers are new memory.
func TestApartFromOthers(t *testing.T) {
	asks := []int{0, 5, 10, 11}
	let, refused := release.Filter(5, asks)
	let[0], refused[0] = 7, 7
	_ = append(let, 9)
	if !slices.Equal(asks, []int{0, 5, 10, 11}) || refused[0] != 7 {
		t.Error("Filter shares")
	}
	handed := dues([][2]int{{0, 0}, {5, 0}, {6, 0}})
	a, b := release.All([]api.Task{sporadic(5)}, handed, 9)
	a[0].At, b[0].At = 7, 7
	_ = append(a, due{At: 8, Task: 8})
	if !slices.Equal(handed, dues([][2]int{{0, 0}, {5, 0}, {6, 0}})) || b[0].At != 7 {
		t.Error("All shares")
	}
}
