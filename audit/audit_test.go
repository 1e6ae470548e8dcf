package audit_test

import (
	"math"
	"math/rand/v2"
	"slices"
	"testing"

	"coxswain/api"
	"coxswain/audit"
	"coxswain/every"
	"coxswain/exec"
	"coxswain/image"
	"coxswain/object"
	"coxswain/script"
	"coxswain/source"
	"coxswain/system"
	"coxswain/trace"
)

type (
	event = api.Event
	call  = api.Call
)

// sys is the system of a text.
func sys(t *testing.T, text string) api.System {
	t.Helper()
	s, line, e := source.Parse(text)
	if e != api.OK {
		t.Fatalf("line %d of %q: %d", line, text, e)
	}
	return s
}

// img is the image of a system.
func img(t *testing.T, s api.System) []byte {
	t.Helper()
	b, ok := image.Encode(s)
	if !ok {
		t.Fatalf("no image of %v", s)
	}
	return b
}

// acts is the acts of a script.
func acts(t *testing.T, text string) []api.Act {
	t.Helper()
	l, line, e := script.Parse(text)
	if e != api.OK {
		t.Fatalf("line %d of %q: %d", line, text, e)
	}
	return l
}

// came is the events of a text.
func came(t *testing.T, text string) []event {
	t.Helper()
	l, line, e := trace.Parse(text)
	if e != api.OK {
		t.Fatalf("line %d of %q: %d", line, text, e)
	}
	return l
}

// rows tells whether two lists of rows are the same.
func rows(a, b [][]int) bool { return slices.EqualFunc(a, b, slices.Equal[[]int]) }

// P45.2: how many steps tell each job, and of those that have not ended 2^20.
func TestDemands(t *testing.T) {
	const text = "0 step 1 0 9\n0 step 1 0 0\n3 step 0 2 0\n4 done 1 0 4\n4 step 0 2 0\n5 step 1 1 0\n5 done 0 2 0\n5 done 0 1 0\n6 done 0 3 0\n7 release 0 5 0\n7 idle - 0 0\n7 idle 1 7 0\n8 step 3 0 0\n8 done 9 1 1\n8 done 1 1 1\n8 miss 1 9 1\n8 step - 0 0\n"
	for _, c := range []struct {
		tasks int
		want  [][]int
	}{
		{0, nil}, {-1, nil}, {math.MinInt, nil}, {1, [][]int{{1 << 20, 0, 2}}}, {2, [][]int{{1 << 20, 0, 2}, {2, 1}}}, {4, [][]int{{1 << 20, 0, 2}, {2, 1}, nil, {1 << 20}}},
	} {
		if got := audit.Demands(c.tasks, came(t, text)); !rows(got, c.want) {
			t.Errorf("%d: %v, not %v", c.tasks, got, c.want)
		}
	}
	for _, tasks := range []int{8, 9, math.MaxInt} {
		l := came(t, "0 step 7 1 0\n0 step 8 1 0\n0 done 7 1 0\n")
		if got := audit.Demands(tasks, l); !rows(got, append(make([][]int, 7), []int{1 << 20, 1})) {
			t.Errorf("%d: %v", tasks, got)
		}
		if got := audit.Demands(tasks, nil); !rows(got, make([][]int, 8)) {
			t.Errorf("%d, of nothing: %v", tasks, got)
		}
	}
}

// P45.2: jobs of numbers from 0 to MaxTicks alone.
func TestNumbers(t *testing.T) {
	for _, no := range []int{-1, math.MinInt, api.MaxTicks + 1, math.MaxInt} {
		l := []event{{Kind: api.EvStep, A: no}, {Kind: api.EvStep, A: 1}, {Kind: api.EvStep, A: no}, {Kind: api.EvDone, A: no}, {Kind: api.EvDone, A: 1}}
		if got := audit.Demands(1, l); !rows(got, [][]int{{1 << 20, 1}}) {
			t.Errorf("%d: %v", no, got)
		}
		if got := audit.Demands(1, l[:1]); !rows(got, [][]int{nil}) {
			t.Errorf("%d alone: %v", no, got)
		}
	}
	got := audit.Demands(2, []event{{Kind: api.EvDone, Task: 1, A: api.MaxTicks}, {Kind: api.EvStep, Task: 1, A: api.MaxTicks}})
	if len(got) != 2 || len(got[0]) != 0 || len(got[1]) != api.MaxTicks+1 || got[1][api.MaxTicks] != 1 || got[1][0] != 1<<20 {
		t.Error(len(got))
	}
}

// P45.1: what is told shares nothing: whatever becomes of one row, the others, and what is told anew, are as they were.
func TestApart(t *testing.T) {
	l := came(t, "0 step 0 1 0\n0 step 1 1 0\n1 done 0 1 1\n")
	was := slices.Clone(l)
	want := [][]int{{1 << 20, 1}, {1 << 20, 1 << 20}}
	for i := range want {
		got := audit.Demands(2, l)
		clear(got[i][:cap(got[i])])
		if !slices.Equal(got[1-i], want[1-i]) || !rows(audit.Demands(2, l), want) || !slices.Equal(l, was) {
			t.Error(i, got, l)
		}
	}
}

// two are two objects of Width 1: four, of the bounds 5 of a write and 4 of a read, and a queue, of 4 of a put and of a take.
const two = "task periodic 0 90 0 90 1\ndone\nend\ntask periodic 1 90 0 90 1\ndone\nend\nobject four 1 0 0 0 0 readers 1 init 5\nobject fifo 1 2 0 0 0 readers 1 init\n"

// stepsAt is steps of a task at times.
func stepsAt(i int, times ...int) []event {
	var l []event
	for _, t := range times {
		l = append(l, event{T: t, Kind: api.EvStep, Task: i, A: t % 3, B: t % 5})
	}
	return l
}

// P45.4: what steps a call made, and which one made too many first.
func TestBounded(t *testing.T) {
	s := sys(t, two)
	read := func(begin, end int) call { return call{Proc: 1, Op: api.OpRead, Begin: begin, End: end} }
	for name, c := range map[string]struct {
		l     []event
		calls []call
		place int
		ok    bool
	}{
		"nothing":               {nil, nil, 0, true},
		"as many as may":        {stepsAt(1, 3, 4, 5, 6), []call{read(3, 6)}, 0, true},
		"one more":              {stepsAt(1, 3, 4, 5, 6, 7), []call{read(3, 7)}, 0, false},
		"two in one tick":       {stepsAt(1, 3, 3, 3, 3, 3), []call{read(3, 3)}, 0, false},
		"one behind it":         {stepsAt(1, 3, 4, 5, 6, 7), []call{read(3, 6)}, 0, true},
		"one ahead of it":       {stepsAt(1, 2, 3, 4, 5, 6), []call{read(3, 6)}, 0, true},
		"in no order":           {stepsAt(1, 7, 5, 3, 6, 4), []call{read(3, 7)}, 0, false},
		"in no order, outside":  {stepsAt(1, 9, 5, 3, 6, 2), []call{read(3, 7)}, 0, true},
		"another's":             {stepsAt(0, 3, 4, 5, 6, 7), []call{read(3, 7)}, 0, true},
		"both":                  {append(stepsAt(0, 3, 5, 7), stepsAt(1, 2, 4, 6, 8)...), []call{read(2, 8)}, 0, true},
		"not ended":             {stepsAt(1, 2, 3, 4, 5, 90), []call{read(2, -1)}, 0, false},
		"not ended, otherwise":  {stepsAt(1, 2, 3, 4, 5, 90), []call{read(2, -7)}, 0, false},
		"not ended, from later": {stepsAt(1, 2, 3, 4, 5, 90), []call{read(3, -1)}, 0, true},
		"ended ahead of itself": {stepsAt(1, 2, 3, 4, 5, 6), []call{read(6, 2)}, 0, true},
		"a write":               {stepsAt(0, 1, 2, 3, 4, 5), []call{{Op: api.OpWrite, Begin: 1, End: 5}}, 0, true},
		"a longer write":        {stepsAt(0, 1, 2, 3, 4, 5, 6), []call{{Op: api.OpWrite, Begin: 1, End: 6}}, 0, false},
		"no such operation":     {stepsAt(1, 3), []call{{Proc: 1, Op: api.OpTake, Begin: 3, End: 3}}, 0, false},
		"no step of it":         {stepsAt(1, 3), []call{{Proc: 1, Op: api.OpTake, Begin: 4, End: 9}}, 0, true},
		"the second one":        {stepsAt(1, 0, 1, 2, 3, 4, 5, 6, 7, 8, 9), []call{read(0, 3), read(4, 8), read(0, 9)}, 1, false},
		"no object":             {nil, []call{read(0, 3), {Object: 2, Op: api.OpRead, Begin: 9, End: 9}}, 1, false},
		"no object, either":     {nil, []call{{Object: -1, Op: api.OpRead}, read(0, 3)}, 0, false},
		"no object at all":      {nil, []call{read(0, 3), {Object: math.MaxInt}}, 1, false},
		"the queue":             {stepsAt(0, 0, 1, 2, 3), []call{{Object: 1, Op: api.OpPut, End: 3}}, 0, true},
		"the queue, too long":   {stepsAt(0, 0, 1, 2, 3, 4), []call{{Object: 1, Op: api.OpPut, End: 4}}, 0, false},
		"other events":          {append(stepsAt(1, 3, 4), event{T: 4, Kind: api.EvIdle, Task: 1}, event{T: 4, Kind: api.EvDone, Task: 1}, event{T: 4, Kind: api.EvCall, Task: 1}), []call{read(3, 7)}, 0, true},
		"a strange process":     {append(stepsAt(-5, 3, 4, 5, 6, 7), stepsAt(1, 3)...), []call{read(3, 7), {Proc: -5, Op: api.OpRead, Begin: 3, End: 7}}, 1, false},
		"the ends of numbers":   {stepsAt(1, math.MinInt, math.MinInt, 0, math.MaxInt, math.MaxInt), []call{read(math.MinInt, math.MaxInt)}, 0, false},
		"one end of numbers":    {stepsAt(1, math.MinInt, math.MinInt, 0, math.MaxInt, math.MaxInt), []call{read(math.MinInt, math.MaxInt-1), read(0, math.MaxInt), read(math.MinInt, -1)}, 2, false},
	} {
		if place, ok := audit.Bounded(s, c.l, c.calls); place != c.place || ok != c.ok {
			t.Errorf("%s: %d, %t", name, place, ok)
		}
	}
	if place, ok := audit.Bounded(api.System{}, nil, []call{{}}); place != 0 || ok {
		t.Error(place, ok)
	}
}

// bounded is what Bounded promises, call by call and step by step.
func bounded(s api.System, l []event, calls []call) (int, bool) {
	for place, c := range calls {
		if c.Object < 0 || c.Object >= len(s.Objects) {
			return place, false
		}
		steps := 0
		for _, e := range l {
			if e.Kind == api.EvStep && e.Task == c.Proc && e.T >= c.Begin && (c.End < 0 || e.T <= c.End) {
				steps++
			}
		}
		if steps > object.Bound(s.Objects[c.Object], c.Op) {
			return place, false
		}
	}
	return 0, true
}

// P45.4: Bounded, of events and calls of all sorts.
func TestAnyBounded(t *testing.T) {
	r := rand.New(rand.NewPCG(45, 4))
	s := sys(t, two)
	met := map[int]int{}
	for range 5000 {
		l := make([]event, r.IntN(40))
		for k := range l {
			l[k] = event{T: r.IntN(40) - 1, Kind: api.EvStep + r.IntN(5)/4, Task: r.IntN(3) - 1}
		}
		calls := make([]call, r.IntN(8))
		for k := range calls {
			begin := r.IntN(40)
			calls[k] = call{Proc: r.IntN(3) - 1, Object: (r.IntN(40) - 1) / 20, Op: 1 + r.IntN(4), Begin: begin, End: begin + r.IntN(12) - 1}
		}
		wantPlace, want := bounded(s, l, calls)
		if place, ok := audit.Bounded(s, l, calls); place != wantPlace || ok != want {
			t.Fatalf("%v, %v: %d, %t, not %d, %t", l, calls, place, ok, wantPlace, want)
		}
		if want {
			wantPlace = -1
		}
		met[wantPlace]++
	}
	for place := -1; place < 4; place++ {
		if met[place] < 50 {
			t.Error(met)
		}
	}
}

// P45.4: each object's calls are looked at by themselves, and the first one that does not linearize is told.
func TestLinear(t *testing.T) {
	s := sys(t, two)
	write := call{Op: api.OpWrite, Rec: []uint32{7}, Begin: 0, End: 4}
	read := call{Proc: 1, Op: api.OpRead, Rec: []uint32{7}, Begin: 5, End: 8}
	old := call{Proc: 1, Op: api.OpRead, Rec: []uint32{5}, Begin: 5, End: 8}
	put := call{Object: 1, Op: api.OpPut, Rec: []uint32{7}, Begin: 0, End: 4}
	take := call{Proc: 1, Object: 1, Op: api.OpTake, Rec: []uint32{7}, Begin: 5, End: 8}
	empty := call{Proc: 1, Object: 1, Op: api.OpTake, Code: api.Empty, Begin: 5, End: 8}
	for name, c := range map[string]struct {
		calls []call
		place int
		ok    bool
	}{
		"nothing": {nil, 0, true}, "a register": {[]call{write, read}, 0, true}, "the first record, too late": {[]call{write, old}, 0, false}, "the first record": {[]call{old}, 0, true},
		"a queue": {[]call{put, take}, 0, true}, "nothing to take": {[]call{put, empty}, 1, false}, "both": {[]call{write, put, take, read}, 0, true}, "both wrong": {[]call{empty, put, old, write}, 0, false},
		"the second one wrong": {[]call{write, put, empty, read}, 1, false}, "a queue's operation": {[]call{{Op: api.OpPut, Rec: []uint32{5}}}, 0, false}, "a register's": {[]call{{Object: 1, Op: api.OpRead, Rec: []uint32{5}}}, 1, false},
		"of no object": {[]call{{Object: 2, Op: api.OpRead, Rec: []uint32{99}}, {Object: -1}, {Object: math.MaxInt, Op: 99, Begin: -3}}, 0, true}, "not right": {[]call{{Begin: -1, Op: api.OpRead}}, 0, false},
	} {
		if place, ok := audit.Linear(s, c.calls); place != c.place || ok != c.ok {
			t.Errorf("%s: %d, %t", name, place, ok)
		}
	}
	if place, ok := audit.Linear(api.System{}, []call{{}}); place != 0 || !ok {
		t.Error(place, ok)
	}
	// Of a kind that is none as of a register.
	if place, ok := audit.Linear(api.System{Objects: []api.Object{{Kind: 9, Init: []uint32{5}}}}, []call{{Op: api.OpRead, Rec: []uint32{5}}}); place != 0 || !ok {
		t.Error(place, ok)
	}
}

// linear is what Linear promises.
func linear(s api.System, calls []call) (int, bool) {
	for k, o := range s.Objects {
		var own []call
		for _, c := range calls {
			if c.Object == k {
				own = append(own, c)
			}
		}
		if !every.Linear(o, own) {
			return k, false
		}
	}
	return 0, true
}

// P45.4: of a verdict that is OK nobody is late, and no read is spoilt; of any other one it is so.
func TestSound(t *testing.T) {
	s := sys(t, two)
	fine := came(t, "0 release 0 0 0\n0 release 1 0 0\n0 step 1 0 0\n0 done 1 0 1\n1 step 0 0 0\n1 done 0 0 2\n2 idle - 0 0\n2 refuse 0 0 0\n3 call 0 0 1\n3 back 0 0 1\n")
	retry := call{Proc: 1, Op: api.OpRead, Code: api.Retry, Begin: 3, End: 9}
	open := call{Proc: 1, Op: api.OpRead, Code: api.Retry, Begin: 3, End: -1}
	for name, c := range map[string]struct {
		r     []int
		more  string
		calls []call
		want  bool
	}{
		"fine": {[]int{2, 1}, "", nil, true}, "no responses": {nil, "", nil, false}, "one response": {[]int{2}, "", nil, false}, "one more": {[]int{2, 1, 0}, "", nil, true}, "longer ones": {[]int{90, 90}, "", nil, true},
		"too short": {[]int{1, 1}, "", nil, false}, "the other one too short": {[]int{2, 0}, "", nil, false}, "below 0": {[]int{2, -1}, "", nil, false},
		"a miss": {[]int{9, 9}, "5 miss 0 0 0\n", nil, false}, "an overrun": {[]int{9, 9}, "5 over 0 0 0\n", nil, false}, "in time": {[]int{9, 9}, "5 done 0 1 9\n", nil, true}, "late": {[]int{9, 9}, "5 done 0 1 10\n", nil, false},
		"no such task": {[]int{9, 9}, "5 done 2 1 0\n", nil, false}, "nobody": {[]int{9, 9}, "5 done - 1 0\n", nil, false},
		"retry": {[]int{2, 1}, "", []call{{End: 3}, retry}, false}, "not ended": {[]int{2, 1}, "", []call{{End: 3}, open, {Code: api.Full}, {Code: api.Empty}, {Code: 9}}, true}, "ended at 0": {[]int{2, 1}, "", []call{{Code: api.Retry}}, false},
	} {
		x := api.Outcome{Events: append(slices.Clone(fine), came(t, c.more)...), Calls: c.calls}
		if got := audit.Sound(s, api.Verdict{R: c.r}, x); got != c.want {
			t.Errorf("%s: %t", name, got)
		}
		for _, e := range []api.Errno{api.ErrLate, api.ErrRetry, api.ErrState, -1} {
			if !audit.Sound(s, api.Verdict{E: e, R: c.r}, x) {
				t.Errorf("%s: %d is not OK", name, e)
			}
		}
		// The verdict that is asked about is the one that is handed in, whatever the outcome has.
		x.Verdict = api.Verdict{E: api.ErrLate, R: []int{0, 0}}
		if got := audit.Sound(s, api.Verdict{R: c.r}, x); got != c.want {
			t.Errorf("%s: %t, with another verdict", name, got)
		}
	}
	// Each task must have a response, also if nothing came of it.
	for tasks, want := range []bool{false, false, true, true} {
		if got := audit.Sound(s, api.Verdict{R: make([]int, tasks)}, api.Outcome{}); got != want {
			t.Errorf("%d responses: %t", tasks, got)
		}
	}
	if !audit.Sound(api.System{}, api.Verdict{}, api.Outcome{}) {
		t.Error("of nobody it is so")
	}
}

// seq is a system that is admitted: 1 goes ahead, and writes what 0 reads.
const seq = "task periodic 0 90 0 90 1\nread r1 o0 0\ndone\nend\ntask sporadic 1 40 0 40 1\nset r1 9\nstore r1 r0 0\nwrite r2 o0 0\ndone\nend\nobject seq 1 0 3 0 1 readers 0 init 5\n"

// P45.5: the first one that is so is told, whatever else is wrong.
func TestCheck(t *testing.T) {
	s := sys(t, seq)
	l := acts(t, "run 2\nask 1\nrun 200\nask 1\nrun 60\n")
	ran := func() api.Outcome { return exec.Run(img(t, s), l, false) }
	if x := ran(); x.E != api.OK || len(x.Calls) != 5 || audit.Check(s, l, x) != 0 {
		t.Fatal(x)
	}
	faults := []func(x *api.Outcome){
		func(x *api.Outcome) { x.Events = append(x.Events, event{T: 262, Kind: api.EvIdle, Task: -1}) },
		func(x *api.Outcome) { x.Calls = append(x.Calls, call{Object: 1, Op: api.OpRead, Begin: 500, End: 500}) },
		func(x *api.Outcome) { x.Calls[0].Rec[0]++ },
		func(x *api.Outcome) { x.Verdict.R = x.Verdict.R[:1] },
	}
	for set := range 1 << len(faults) {
		x, want := ran(), 0
		for k, fault := range faults {
			if set>>k&1 == 0 {
				continue
			}
			fault(&x)
			if want == 0 {
				want = k + 1
			}
		}
		if got := audit.Check(s, l, x); got != want {
			t.Errorf("faults %b: %d, not %d", set, got, want)
		}
		for _, e := range []api.Errno{api.ErrArg, api.ErrLate, -1} {
			x.E = e
			if got := audit.Check(s, l, x); got != 0 {
				t.Errorf("faults %b, and %d: %d", set, e, got)
			}
		}
	}
	if got := audit.Check(s, []api.Act{{}}, ran()); got != 1 {
		t.Error("acts that are not right", got)
	}
	if got := audit.Check(s, []api.Act{{}}, api.Outcome{E: api.ErrArg}); got != 0 {
		t.Error("an error, of acts that are not right", got)
	}
	// Go has no verdict of its own: there are no responses.
	if got := audit.Check(s, l, exec.Go(s, l)); got != 4 {
		t.Error("no verdict", got)
	}
}

// P45.4, P45.5: a call that makes one step too many, a read that is spoilt though it may not be.
func TestCheckCalls(t *testing.T) {
	s := sys(t, seq)
	l := acts(t, "run 2\nask 1\nrun 60\n")
	x := exec.Run(img(t, s), l, false)
	x.Calls[0].Code, x.Calls[0].Rec = api.Retry, nil
	if got := audit.Check(s, l, x); got != 4 {
		t.Error("spoilt", got)
	}
	x.Verdict.E = api.ErrRetry
	if got := audit.Check(s, l, x); got != 0 {
		t.Error("spoilt, and not admitted", got)
	}
	narrow := system.Copy(s)
	narrow.Objects[0].Cap = 1
	if got := audit.Check(narrow, l, x); got != 2 {
		t.Error("of one attempt", got)
	}
}
