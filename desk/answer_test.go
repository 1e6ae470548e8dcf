package desk_test

import (
	"math"
	"math/rand/v2"
	"slices"
	"strconv"
	"testing"

	"coxswain/api"
	"coxswain/desk"
	"coxswain/source"
	"coxswain/system"
)

// sys is the system of a text.
func sys(t *testing.T, text string) api.System {
	t.Helper()
	s, at, e := source.Parse(text)
	if e != api.OK {
		t.Fatalf("%q: %d, %d", text, at, e)
	}
	return s
}

// answers fails if something else is answered.
func answers(t *testing.T, s api.System, x api.Outcome, ask string, want ...string) {
	t.Helper()
	if l := desk.Answer(s, x, nil, ask); !slices.Equal(l, want) {
		t.Errorf("%s of %v: %q, not %q", ask, x, l, want)
	}
}

// The least and the greatest number.
const (
	least    = "-9223372036854775808"
	greatest = "9223372036854775807"
)

// P48.4: the verdict, whatever it is.
func TestAdmit(t *testing.T) {
	for _, c := range []struct {
		v    api.Verdict
		want []string
	}{
		{api.Verdict{}, []string{"verdict 0 0 0"}},
		{api.Verdict{Task: -1, Object: -1, R: []int{7, 14, 0}}, []string{"verdict 0 -1 -1", "response 0 7", "response 1 14", "response 2 0"}},
		{api.Verdict{E: api.ErrSize, Task: 3, Object: 2}, []string{"verdict 11 3 2"}},
		{api.Verdict{E: api.ErrLate, Task: 1, Object: -1, R: []int{}}, []string{"verdict 13 1 -1"}},
		{api.Verdict{E: -5, Task: math.MinInt, Object: math.MaxInt, R: []int{math.MaxInt, -1, math.MinInt}}, []string{"verdict -5 " + least + " " + greatest, "response 0 " + greatest, "response 1 -1", "response 2 " + least}},
	} {
		answers(t, api.System{}, api.Outcome{Verdict: c.v}, "admit", c.want...)
		answers(t, sys(t, both), api.Outcome{Verdict: c.v, E: api.ErrArg, Events: make([]api.Event, 3), Calls: make([]api.Call, 3), Jobs: make([]api.Job, 3)}, "admit", c.want...)
	}
	long := desk.Answer(api.System{}, api.Outcome{Verdict: api.Verdict{R: make([]int, 1000)}}, nil, "admit")
	if len(long) != 1001 || long[1000] != "response 999 0" {
		t.Error(len(long))
	}
}

// P48.4: the lines of events, but of those that are not right.
func TestEvents(t *testing.T) {
	right := []api.Event{{T: 5, Kind: api.EvStep, Task: 1, B: 3}, {T: 6, Kind: api.EvIdle, Task: -1}, {T: 2, Kind: api.EvRefuse, Task: 7}, {T: api.Top, Kind: api.EvBack, Task: api.Top, A: api.Top, B: api.Top}}
	want := []string{"5 step 1 0 3", "6 idle - 0 0", "2 refuse 7 0 0", "1099511627776 back 1099511627776 1099511627776 1099511627776"}
	answers(t, api.System{}, api.Outcome{}, "events")
	answers(t, api.System{}, api.Outcome{Events: right}, "events", want...)
	wrong := []api.Event{{}, {Kind: 10}, {Kind: -1}, {Kind: api.EvStep, T: -1}, {Kind: api.EvStep, Task: -2}, {Kind: api.EvStep, A: api.Top + 1}, {Kind: api.EvStep, B: math.MinInt}}
	answers(t, api.System{}, api.Outcome{Events: wrong}, "events")
	mixed := slices.Concat(wrong, right[:1], wrong, right[1:], wrong)
	answers(t, api.System{}, api.Outcome{E: api.ErrArg, Events: mixed, Calls: make([]api.Call, 3), Jobs: make([]api.Job, 3)}, "events", want...)
}

// P48.4: the lines of calls, but of those that are not right; whether they are right together is not asked.
func TestCalls(t *testing.T) {
	right := []api.Call{{Proc: 2, Op: api.OpRead, Rec: []uint32{7, 8}, Begin: 5, End: 9}, {Proc: 2, Object: 1, Op: api.OpTake, Code: api.Empty, Begin: 6, End: -1}, {Op: api.OpPut, Code: api.Full}}
	want := []string{"2 0 read 5 9 good 7 8", "2 1 take 6 - empty", "0 0 put 0 0 full"}
	answers(t, api.System{}, api.Outcome{}, "calls")
	answers(t, api.System{}, api.Outcome{Calls: right}, "calls", want...)
	wrong := []api.Call{{}, {Op: 5}, {Op: 1, Code: 4}, {Op: 1, Proc: -1}, {Op: 1, Object: -1}, {Op: 1, Begin: 5, End: 4}, {Op: 1, End: -2}, {Op: 1, Rec: make([]uint32, api.MaxWidth+1)}, {Op: 1, End: api.Top + 1}}
	answers(t, api.System{}, api.Outcome{Calls: wrong}, "calls")
	mixed := slices.Concat(wrong, right[:1], wrong, right[1:], wrong)
	answers(t, api.System{}, api.Outcome{E: api.ErrArg, Calls: mixed, Events: make([]api.Event, 3), Jobs: make([]api.Job, 3)}, "calls", want...)
}

// P48.4: all jobs, as they stand.
func TestJobs(t *testing.T) {
	jobs := []api.Job{
		{Task: 1, No: 2, Release: 3, Deadline: 4, Start: 5, End: 6, Steps: 7}, {Task: 1, No: 2, Release: 3, Deadline: 4, Start: 5, End: 6, Steps: 7, Missed: true}, {}, {Missed: true}, {Start: -1, End: -1},
		{Task: -1, No: math.MinInt, Release: math.MaxInt, Deadline: -10, Start: -100, End: 1 << 40, Steps: -7, Missed: true},
	}
	answers(t, api.System{}, api.Outcome{}, "jobs")
	answers(t, api.System{}, api.Outcome{Jobs: jobs, Events: make([]api.Event, 3), Calls: make([]api.Call, 3)}, "jobs",
		"job 1 2 3 4 5 6 7", "job 1 2 3 4 5 6 7 late", "job 0 0 0 0 0 0 0", "job 0 0 0 0 0 0 0 late", "job 0 0 0 0 -1 -1 0", "job -1 "+least+" "+greatest+" -10 -100 1099511627776 -7 late")
}

// P48.4: what is wrong of a run, by the acts that are told.
func TestCheck(t *testing.T) {
	s := sys(t, "task periodic 0 9 0 9 1\nnop\ndone\nend\n")
	acts := []api.Act{{Kind: api.ActRun, N: 2}}
	ran := api.Outcome{Events: []api.Event{{Kind: api.EvRelease}, {Kind: api.EvStep}, {T: 1, Kind: api.EvStep, B: 1}, {T: 1, Kind: api.EvDone, B: 2}}, Verdict: api.Verdict{R: []int{2}}}
	idle := api.Outcome{Events: []api.Event{{Kind: api.EvRelease}, {Kind: api.EvIdle, Task: -1}, {T: 1, Kind: api.EvIdle, Task: -1}}}
	called, late, failed := ran, ran, idle
	called.Calls = []api.Call{{Op: api.OpRead}}
	late.Verdict.R = []int{1}
	failed.E = api.ErrArg
	for want, x := range map[int]api.Outcome{0: ran, 1: idle, 2: called, 4: late} {
		if l := desk.Answer(s, x, acts, "check"); !slices.Equal(l, []string{"check " + strconv.Itoa(want)}) {
			t.Errorf("%d: %q", want, l)
		}
	}
	if l := desk.Answer(s, failed, acts, "check"); !slices.Equal(l, []string{"check 0"}) {
		t.Errorf("%q", l)
	}
	if l := desk.Answer(s, ran, append(acts, acts...), "check"); !slices.Equal(l, []string{"check 1"}) {
		t.Errorf("%q", l)
	}
	// Nobody wrote the 9 that is read.
	s.Objects = []api.Object{{Kind: api.Four, Width: 1, Init: []uint32{5}, Readers: []int{0}}}
	called.Calls[0].Rec = []uint32{9}
	if l := desk.Answer(s, called, acts, "check"); !slices.Equal(l, []string{"check 3"}) {
		t.Errorf("%q", l)
	}
}

// P48.4: what each object needs, by the verdict's responses.
func TestSizes(t *testing.T) {
	const text = "task sporadic 9 5 0 5 1\nwrite r0 o0 0\ndone\nend\ntask sporadic 1 50 0 50 1\nread r0 o0 0\nread r0 o1 0\nread r0 o2 0\nread r0 o3 0\ndone\nend\n" +
		"object ring 1 2 1 0 0 readers 1 init 7\nobject seq 1 0 1 0 0 readers 1 init 7\nobject four 1 0 0 0 0 readers 1 init 7\nobject fifo 1 2 0 0 0 readers 1 init\n"
	s := sys(t, text)
	answers(t, s, api.Outcome{}, "sizes", "size 0 2 1", "size 1 0 1", "size 2 0 0", "size 3 0 0")
	answers(t, s, api.Outcome{Verdict: api.Verdict{R: []int{3}}}, "sizes", "size 0 2 1", "size 1 0 1", "size 2 0 0", "size 3 0 0")
	answers(t, s, api.Outcome{E: api.ErrArg, Verdict: api.Verdict{E: api.ErrLate, R: []int{3, 11}}}, "sizes", "size 0 5 4", "size 1 0 1", "size 2 0 0", "size 3 0 0")
	answers(t, api.System{}, api.Outcome{Verdict: api.Verdict{R: []int{3, 11}}}, "sizes")
	answers(t, api.System{Tasks: s.Tasks}, api.Outcome{}, "sizes")
}

// P48.4: each task's longest response time, if a job of it has ended.
func TestWorst(t *testing.T) {
	l := []api.Event{{Kind: api.EvDone, Task: 0, B: 3}, {Kind: api.EvDone, Task: 2, B: 9}, {Kind: api.EvStep, Task: 1, B: 4}, {Kind: api.EvDone, Task: 0, B: 8}, {Kind: api.EvDone, Task: 0, B: 5}, {Kind: api.EvDone, Task: 3, B: -6}, {Kind: api.EvDone, Task: -1, B: 7}}
	answers(t, api.System{}, api.Outcome{Events: l}, "worst")
	answers(t, api.System{Tasks: make([]api.Task, 5)}, api.Outcome{Events: l, E: api.ErrArg}, "worst", "worst 0 8", "worst 1 -", "worst 2 9", "worst 3 -6", "worst 4 -")
	answers(t, api.System{Tasks: make([]api.Task, 1)}, api.Outcome{Events: []api.Event{{Kind: api.EvDone}}}, "worst", "worst 0 0")
	answers(t, api.System{Tasks: make([]api.Task, 2)}, api.Outcome{Jobs: []api.Job{{End: 5}}}, "worst", "worst 0 -", "worst 1 -")
}

// P48.4: whatever else is asked.
func TestStrange(t *testing.T) {
	for _, ask := range []string{"", " ", "?", "Admit", "admit ", " admit", "admits", "event", "call", "job", "size", "jobs jobs", "check\n", "sizes\r", "worst\x00", "response", "tell", "script", "\xff", "admit\nevents", "-1"} {
		answers(t, sys(t, both), api.Outcome{Events: make([]api.Event, 3), Jobs: make([]api.Job, 3)}, ask, "? "+ask)
	}
}

// asked is all that may be asked, and something else.
var asked = []string{"admit", "events", "calls", "jobs", "check", "sizes", "worst", "what"}

// strange is some number.
func strange(r *rand.Rand) int {
	l := []int{r.IntN(6) - 1, r.IntN(70000), -1, math.MinInt, math.MaxInt, api.Top, api.Top + 1, -r.IntN(70000), 1 << 32}
	return l[r.IntN(len(l))]
}

// garbage is a system in which anything may be wrong, an outcome, and acts.
func garbage(t *testing.T, r *rand.Rand) (api.System, api.Outcome, []api.Act) {
	t.Helper()
	s := sys(t, both)
	for range r.IntN(4) {
		i, o := &s.Tasks[r.IntN(2)], &s.Objects[0]
		for _, n := range []*int{&i.Kind, &i.Prio, &i.Period, &i.Offset, &i.Deadline, &i.Own, &i.Code[0].Op, &i.Code[0].C, &o.Kind, &o.Width, &o.Slots, &o.Cap, &o.Writer, &o.Readers[0]} {
			if r.IntN(9) == 0 {
				*n = strange(r)
			}
		}
	}
	if r.IntN(9) == 0 {
		s.Tasks = nil
	}
	x := api.Outcome{E: api.Errno(r.IntN(2)), Verdict: api.Verdict{E: api.Errno(r.IntN(2)), Task: strange(r)}}
	for range r.IntN(12) {
		x.Verdict.R = append(x.Verdict.R, strange(r))
		x.Events = append(x.Events, api.Event{T: strange(r), Kind: r.IntN(12) - 1, Task: r.IntN(3) - 1, A: strange(r), B: strange(r)})
		x.Calls = append(x.Calls, api.Call{Proc: r.IntN(3), Object: r.IntN(2), Op: r.IntN(6), Rec: make([]uint32, r.IntN(12)), Code: r.IntN(5), Begin: strange(r), End: strange(r)})
		x.Jobs = append(x.Jobs, api.Job{Task: strange(r), No: strange(r), Deadline: strange(r), Missed: r.IntN(2) > 0})
	}
	acts := []api.Act{{Kind: api.ActRun, N: r.IntN(40)}, {Kind: api.ActAsk, N: r.IntN(3)}, {Kind: r.IntN(4), N: strange(r)}}
	return s, x, acts[:r.IntN(4)]
}

// P48.1: whatever is handed in, each question is answered, time and again the same, and nothing is changed.
func TestAnything(t *testing.T) {
	r := rand.New(rand.NewPCG(48, 1))
	for range 3000 {
		s, x, acts := garbage(t, r)
		wasSys, wasActs := system.Copy(s), slices.Clone(acts)
		was := api.Outcome{E: x.E, Where: x.Where, Verdict: x.Verdict, Events: slices.Clone(x.Events), Calls: slices.Clone(x.Calls), Jobs: slices.Clone(x.Jobs)}
		was.Verdict.R = slices.Clone(x.Verdict.R)
		for _, ask := range asked {
			l := desk.Answer(s, x, acts, ask)
			first := slices.Clone(l)
			clear(l)
			if again := desk.Answer(s, x, acts, ask); !slices.Equal(again, first) {
				t.Fatalf("%s: %q, then %q", ask, first, again)
			}
		}
		if !system.Same(s, wasSys) || !slices.Equal(acts, wasActs) || !sameOutcome(x, was) {
			t.Fatal("what was handed in has changed")
		}
	}
}

// sameOutcome tells whether outcomes are the same.
func sameOutcome(a, b api.Outcome) bool {
	sameCall := func(a, b api.Call) bool {
		return a.Proc == b.Proc && a.Object == b.Object && a.Op == b.Op && slices.Equal(a.Rec, b.Rec) && a.Code == b.Code && a.Begin == b.Begin && a.End == b.End
	}
	return a.E == b.E && a.Where == b.Where && a.Verdict.E == b.Verdict.E && a.Verdict.Task == b.Verdict.Task && a.Verdict.Object == b.Verdict.Object && slices.Equal(a.Verdict.R, b.Verdict.R) &&
		slices.Equal(a.Events, b.Events) && slices.EqualFunc(a.Calls, b.Calls, sameCall) && slices.Equal(a.Jobs, b.Jobs)
}
