package audit_test

import (
	"cmp"
	"math"
	"math/rand/v2"
	"slices"
	"strconv"
	"strings"
	"testing"

	"coxswain/admit"
	"coxswain/api"
	"coxswain/audit"
	"coxswain/exec"
	"coxswain/kernel"
	"coxswain/script"
	"coxswain/system"
)

// alone is a task of two steps, and pair two such tasks, of which the second one goes ahead, and is asked for.
const (
	alone = "task periodic 0 9 0 9 1\nnop\ndone\nend\n"
	pair  = "task periodic 0 4 0 3 1\nnop\ndone\nend\ntask sporadic 1 3 0 3 1\nnop\ndone\nend\n"
)

// P45.3, P45.5: the chapter's example: nobody has a step, though a job was released.
func TestExample(t *testing.T) {
	s, l := sys(t, alone), acts(t, "run 2\n")
	if x := exec.Go(s, l); !audit.Refines(s, l, x.Events) {
		t.Error(x.Events)
	}
	idle := came(t, "0 release 0 0 0\n0 idle - 0 0\n1 idle - 0 0\n")
	if audit.Refines(s, l, idle) || audit.Check(s, l, api.Outcome{Events: idle}) != 1 {
		t.Error("nobody has a step")
	}
}

// P45.3: each kind of event that must come, told otherwise, twice, or not at all.
func TestRefines(t *testing.T) {
	s := sys(t, pair)
	l := acts(t, "ask 1\nrun 3\nask 1\nrun 3\nask 1\nask 1\nrun 2\n")
	// The first job of 0 is late, and still there when the next one would come.
	const run = "0 release 0 0 0\n0 release 1 0 0\n0 step 1 0 0\n1 step 1 0 1\n1 done 1 0 2\n2 step 0 0 0\n3 miss 0 0 0\n3 release 1 1 0\n3 step 1 1 0\n" +
		"4 over 0 0 0\n4 step 1 1 1\n4 done 1 1 2\n5 step 0 0 1\n5 done 0 0 6\n6 release 1 2 0\n6 refuse 1 0 0\n6 step 1 2 0\n7 step 1 2 1\n7 done 1 2 2\n"
	if x := exec.Go(s, l); !slices.Equal(x.Events, came(t, run)) {
		t.Fatal(x.Events)
	}
	for name, c := range map[string]struct {
		old, new string
		want     bool
	}{
		"as it was":          {"", "", true},
		"no release":         {"6 release 1 2 0\n", "", false},
		"a release twice":    {"6 release 1 2 0\n", "6 release 1 2 0\n6 release 1 2 0\n", false},
		"another number":     {"6 release 1 2 0\n", "6 release 1 3 0\n", false},
		"something in B":     {"6 release 1 2 0\n", "6 release 1 2 1\n", false},
		"another time":       {"6 release 1 2 0\n", "5 release 1 2 0\n", false},
		"another task":       {"6 release 1 2 0\n", "6 release 0 2 0\n", false},
		"no overrun":         {"4 over 0 0 0\n", "", false},
		"an overrun twice":   {"4 over 0 0 0\n", "4 over 0 0 0\n4 over 0 0 0\n", false},
		"something in A":     {"4 over 0 0 0\n", "4 over 0 1 0\n", false},
		"an overrun's time":  {"4 over 0 0 0\n", "5 over 0 0 0\n", false},
		"an overrun's task":  {"4 over 0 0 0\n", "4 over 1 0 0\n", false},
		"no miss":            {"3 miss 0 0 0\n", "", false},
		"another miss":       {"3 miss 0 0 0\n", "3 miss 0 0 0\n3 miss 1 0 0\n", false},
		"a miss's time":      {"3 miss 0 0 0\n", "2 miss 0 0 0\n", false},
		"a miss's number":    {"3 miss 0 0 0\n", "3 miss 0 1 0\n", false},
		"a miss's B":         {"3 miss 0 0 0\n", "3 miss 0 0 3\n", false},
		"no end":             {"7 done 1 2 2\n", "", true}, // the job has not ended, then, and has both ticks
		"no end ahead":       {"4 done 1 1 2\n", "", false},
		"an end twice":       {"7 done 1 2 2\n", "7 done 1 2 2\n7 done 1 2 2\n", false},
		"a longer response":  {"7 done 1 2 2\n", "7 done 1 2 3\n", false},
		"an end's time":      {"7 done 1 2 2\n", "6 done 1 2 2\n", false},
		"an end's number":    {"7 done 1 2 2\n", "7 done 1 1 2\n", false},
		"an end's task":      {"7 done 1 2 2\n", "7 done 0 2 2\n", false},
		"no step":            {"7 step 1 2 1\n", "", false},
		"a step twice":       {"7 step 1 2 1\n", "7 step 1 2 1\n7 step 1 2 1\n", false},
		"one step more":      {"7 done 1 2 2\n", "7 done 1 2 2\n8 step 0 1 0\n", false},
		"one idle tick more": {"7 done 1 2 2\n", "7 done 1 2 2\n8 idle - 0 0\n", false},
		"an idle tick":       {"7 step 1 2 1\n", "7 idle - 0 0\n", false},
		"another's step":     {"7 step 1 2 1\n", "7 step 0 2 1\n", false},
		"a step's time":      {"7 step 1 2 1\n", "6 step 1 2 1\n", false},
		"another job's":      {"7 step 1 2 1\n", "7 step 1 1 1\n", false},
		"another place":      {"7 step 1 2 1\n", "7 step 1 2 9\n", true},
		"no refusal":         {"6 refuse 1 0 0\n", "", true},
		"refusals":           {"6 refuse 1 0 0\n", "9 refuse 5 6 7\n2 refuse 0 0 0\n", true},
		"calls":              {"6 refuse 1 0 0\n", "6 call 1 0 0\n99 back 1 0 0\n", true},
		"one tick otherwise": {"0 release 0 0 0\n0 release 1 0 0\n0 step 1 0 0\n", "0 step 1 0 0\n0 release 1 0 0\n0 release 0 0 0\n", true},
		"ticks otherwise":    {"0 step 1 0 0\n1 step 1 0 1\n", "1 step 1 0 1\n0 step 1 0 0\n", false},
		"a miss much later":  {"3 miss 0 0 0\n3 release 1 1 0\n3 step 1 1 0\n4 over 0 0 0\n", "3 release 1 1 0\n3 step 1 1 0\n4 over 0 0 0\n3 miss 0 0 0\n", true},
	} {
		if !strings.Contains(run, c.old) {
			t.Fatal(name)
		}
		text := strings.Replace(run, c.old, c.new, 1)
		if got := audit.Refines(s, l, came(t, text)); got != c.want {
			t.Errorf("%s: %t", name, got)
		}
	}
	for name, text := range map[string]string{"a tick more": "ask 1\nrun 3\nask 1\nrun 3\nask 1\nask 1\nrun 3\n", "a tick less": "ask 1\nrun 3\nask 1\nrun 3\nask 1\nask 1\nrun 1\n", "no ask": "ask 1\nrun 3\nask 1\nrun 5\n", "no ticks": ""} {
		if audit.Refines(s, acts(t, text), came(t, run)) {
			t.Errorf("%s: so", name)
		}
	}
}

// P45.3: acts that are not right, and runs of no ticks.
func TestActs(t *testing.T) {
	s := sys(t, alone)
	for _, l := range [][]api.Act{{{}}, {{Kind: api.ActRun, N: -1}}, {{Kind: api.ActRun, N: api.MaxTicks + 1}}, {{Kind: api.ActAsk, N: 8}}, {{Kind: api.ActAsk, N: -1}}, make([]api.Act, api.MaxActs+1), slices.Repeat([]api.Act{{Kind: api.ActRun}}, api.MaxActs+1)} {
		if audit.Refines(s, l, nil) || audit.Refines(api.System{}, l, nil) {
			t.Errorf("%.3v: so", l)
		}
	}
	for _, l := range [][]api.Act{nil, {}, {{Kind: api.ActRun}}, {{Kind: api.ActAsk, N: 7}}} {
		if !audit.Refines(s, l, nil) || audit.Refines(s, l, came(t, "0 idle - 0 0\n")) || audit.Refines(s, l, came(t, "0 release 0 0 0\n")) {
			t.Errorf("%v: no", l)
		}
	}
	// Of tasks that are not plain there are no releases, so all ticks are nobody's.
	nobody := api.System{Tasks: []api.Task{{}, {Kind: api.Periodic, Period: -1}, {Kind: api.Sporadic, Period: math.MaxInt}}}
	l := acts(t, "ask 2\nrun 2\n")
	if !audit.Refines(nobody, l, came(t, "0 idle - 0 0\n1 idle - 0 0\n")) || audit.Refines(nobody, l, came(t, "0 idle - 0 0\n1 step 2 0 0\n")) {
		t.Error("nobody is released")
	}
}

// demands is what Demands promises, job by job.
func demands(tasks int, l []event) [][]int {
	var all [][]int
	for i := range tasks {
		var row []int
		for _, e := range l {
			for e.Kind == api.EvStep && e.Task == i && e.A <= api.MaxTicks && e.A >= len(row) {
				row = append(row, told(l, i, len(row)))
			}
		}
		all = append(all, row)
	}
	return all
}

// told is how many steps tell a job, if its end is told.
func told(l []event, i, no int) int {
	steps, ended := 0, false
	for _, e := range l {
		if e.Task == i && e.A == no {
			ended = ended || e.Kind == api.EvDone
			if e.Kind == api.EvStep {
				steps++
			}
		}
	}
	if !ended {
		return 1048576
	}
	return steps
}

// row is the events of a kind, by time and task; steps, and idle ticks, are one kind, of which just time and task matter.
func row(l []event, kind int) []event {
	var some []event
	for _, e := range l {
		if kind == api.EvStep && (e.Kind == api.EvStep || e.Kind == api.EvIdle) {
			some = append(some, event{T: e.T, Task: e.Task})
		} else if kind != api.EvStep && e.Kind == kind {
			some = append(some, e)
		}
	}
	if kind != api.EvStep {
		slices.SortFunc(some, func(a, b event) int { return cmp.Or(cmp.Compare(a.T, b.T), cmp.Compare(a.Task, b.Task)) })
	}
	return some
}

// refines is what Refines promises of plain tasks: what the kernel does with the same jobs.
func refines(t *testing.T, s api.System, acts []api.Act, l []event) bool {
	t.Helper()
	want, e := kernel.Run(s.Tasks, script.Asks(acts), demands(len(s.Tasks), l), script.Ticks(acts))
	if e != api.OK {
		t.Fatal(e)
	}
	for _, kind := range []int{api.EvStep, api.EvRelease, api.EvOver, api.EvMiss, api.EvDone} {
		if !slices.Equal(row(l, kind), row(want, kind)) {
			return false
		}
	}
	return true
}

// changed is events of which one, or two, are told otherwise.
func changed(r *rand.Rand, l []event) []event {
	l = slices.Clone(l)
	for range 1 + r.IntN(2) {
		at := r.IntN(len(l))
		by := 1 - 2*r.IntN(2)
		switch r.IntN(9) {
		case 0:
			l[at].T += by
		case 1:
			l[at].Kind = 1 + r.IntN(9)
		case 2:
			l[at].Task += by
		case 3:
			l[at].A += by
		case 4:
			l[at].B += by
		case 5:
			l = slices.Delete(l, at, at+1)
		case 6:
			l = slices.Insert(l, r.IntN(len(l)), l[at])
		default:
			other := min(at+1+r.IntN(1+r.IntN(5)), len(l)-1)
			l[at], l[other] = l[other], l[at]
		}
	}
	return l
}

// shared are objects of all kinds of Width 1, with what their writers and readers do: W writes, R reads.
var shared = [][3]string{
	{"four 1 0 0 0 W readers R init 5", "write", "read"}, {"chen 1 0 0 0 W readers R init 5", "write", "read"}, {"seq 1 0 1 4294967294 W readers R init 5", "write", "read"},
	{"seq 1 0 4 0 W readers R init 5", "write", "read"}, {"ring 1 2 1 2097151 W readers R init 5", "write", "read"}, {"ring 1 6 2 0 W readers R init 5", "write", "read"},
	{"cab 1 3 2 0 W readers R init 5", "write", "read"}, {"fifo 1 1 0 1 W readers R init", "put", "take"}, {"fifo 1 3 0 0 W readers R init", "put", "take"},
}

// some picks one of the items.
func some[T any](r *rand.Rand, l ...T) T { return l[r.IntN(len(l))] }

// crowd is a system that may be: each task counts a word of its own, and some share objects. Periods are the longer, the easier they are.
func crowd(t *testing.T, r *rand.Rand, easy int) api.System {
	t.Helper()
	code := make([]string, 2+r.IntN(3))
	for i := range code {
		code[i] = "load r1 r0 0\nset r2 1\nadd r1 r1 r2\nstore r1 r0 0\n" + strings.Repeat("nop\n", r.IntN(3))
	}
	objects := ""
	for k := range 1 + r.IntN(2) {
		users, o := r.Perm(len(code)), some(r, shared...)
		for side, i := range users[:2] {
			code[i] += strings.Repeat(o[1+side]+" r3 o"+strconv.Itoa(k)+" "+strconv.Itoa(side)+"\n", 1+r.IntN(2))
		}
		objects += "object " + strings.NewReplacer("W", strconv.Itoa(users[0]), "R", strconv.Itoa(users[1])).Replace(o[0]) + "\n"
	}
	text := ""
	for _, l := range code {
		period := easy * some(r, 9, 13, 20, 30, 60)
		numbers := []int{r.IntN(4), period, r.IntN(12), period - r.IntN(5), 2}
		kind := "periodic"
		if r.IntN(2) == 0 {
			kind, numbers[2] = "sporadic", 0
		}
		text += "task " + kind
		for _, n := range numbers {
			text += " " + strconv.Itoa(n)
		}
		text += "\n" + l + "done\nend\n"
	}
	return sys(t, text+objects)
}

// asking is acts that are right, of some hundred ticks at most.
func asking(r *rand.Rand) []api.Act {
	var l []api.Act
	for range r.IntN(60) {
		l = append(l, some(r, api.Act{Kind: api.ActAsk, N: r.IntN(5)}, api.Act{Kind: api.ActRun, N: r.IntN(12)}))
	}
	return l
}

// P45.3: Refines of runs, and of what is nearly a run.
func TestNearRuns(t *testing.T) {
	r := rand.New(rand.NewPCG(45, 3))
	still, not := 0, 0
	for range 1500 {
		s, l := crowd(t, r, 1), asking(r)
		x := exec.Go(s, l)
		if !audit.Refines(s, l, x.Events) || !rows(audit.Demands(len(s.Tasks), x.Events), demands(len(s.Tasks), x.Events)) {
			t.Fatalf("%v, %v: %v", s, l, x.Events)
		}
		for range 20 {
			if len(x.Events) < 4 {
				break
			}
			events := changed(r, x.Events)
			want := refines(t, s, l, events)
			if got := audit.Refines(s, l, events); got != want {
				t.Fatalf("%v, %v: %v: %t", s, l, events, got)
			}
			if want {
				still++
			} else {
				not++
			}
		}
	}
	if still < 2000 || not < 5000 {
		t.Error(still, not)
	}
}

// P45.4: Bounded and Linear of runs, and of what is nearly a run.
func TestNearCalls(t *testing.T) {
	r := rand.New(rand.NewPCG(45, 5))
	met := map[[2]bool]int{}
	for range 2000 {
		s, l := crowd(t, r, 1), asking(r)
		x := exec.Go(s, l)
		if len(x.Calls) == 0 {
			continue
		}
		c := &x.Calls[r.IntN(len(x.Calls))]
		switch r.IntN(5) {
		case 0:
			c.Begin = r.IntN(c.Begin + 1)
		case 1:
			c.End += r.IntN(30)
		case 2:
			c.Code = r.IntN(4)
		case 3:
			c.Op = 1 + r.IntN(4)
		case 4:
			c.Rec = []uint32{r.Uint32N(4)}
		}
		wantPlace, within := bounded(s, x.Events, x.Calls)
		if place, ok := audit.Bounded(s, x.Events, x.Calls); place != wantPlace || ok != within {
			t.Fatalf("%v, %v: %d, %t", s, x, place, ok)
		}
		wantObject, whole := linear(s, x.Calls)
		if object, ok := audit.Linear(s, x.Calls); object != wantObject || ok != whole {
			t.Fatalf("%v, %v: %d, %t", s, x, object, ok)
		}
		met[[2]bool{within, whole}]++
	}
	if len(met) < 4 || met[[2]bool{true, true}] < 50 || met[[2]bool{false, true}] < 50 || met[[2]bool{true, false}] < 50 {
		t.Error(met)
	}
}

// P45.6: whatever exec's Run tells is as it must be: of what is admitted, of what is forced, and with an error.
func TestRuns(t *testing.T) {
	r := rand.New(rand.NewPCG(45, 6))
	admitted, forced, failed := 0, map[int]int{}, 0
	for n := range 2500 {
		s, l := crowd(t, r, 1+n%8), asking(r)
		b := img(t, s)
		if r.IntN(50) == 0 {
			b = b[:r.IntN(len(b))]
		}
		if r.IntN(50) == 0 {
			l = append(l, api.Act{Kind: 9})
		}
		was := slices.Clone(l)
		x := exec.Run(b, l, r.IntN(3) > 0)
		if got := audit.Check(s, l, x); got != 0 {
			t.Fatalf("%v, %v: %v: %d", s, l, x, got)
		}
		if !slices.Equal(l, was) {
			t.Fatal("the acts were changed")
		}
		switch {
		case x.E != api.OK:
			failed++
		case x.Verdict.E == api.OK:
			admitted++
		default:
			for _, e := range x.Events {
				forced[e.Kind]++
			}
		}
	}
	if admitted < 200 || failed < 200 {
		t.Error(admitted, failed)
	}
	for kind := api.EvRelease; kind <= api.EvBack; kind++ {
		if forced[kind] < 300 {
			t.Error(forced)
		}
	}
}

// P45.6: a run of as many ticks as may be, of many calls.
func TestLong(t *testing.T) {
	text := "task periodic 9 11 0 11 1\nput r1 o0 0\ndone\nend\ntask periodic 8 13 0 13 1\ntake r1 o0 0\ndone\nend\ntask periodic 7 65 0 65 1\nwrite r1 o1 0\ndone\nend\ntask periodic 6 65 3 65 1\nread r1 o1 0\ndone\nend\n" +
		"object fifo 1 3 0 0 0 readers 1 init\nobject ring 1 4 2 0 2 readers 3 init 5\n"
	s, l := sys(t, text), acts(t, "run 65536\n")
	x := exec.Run(img(t, s), l, true)
	if got := audit.Check(s, l, x); got != 0 || len(x.Calls) < 10000 || x.Verdict.E != admit.Check(s).E {
		t.Error(got, len(x.Calls), x.Verdict)
	}
	x.Calls[len(x.Calls)-1].Object = 2
	if place, ok := audit.Bounded(s, x.Events, x.Calls); ok || place != len(x.Calls)-1 {
		t.Error(place, ok)
	}
}

// P45.1: whatever is handed in, all ends, and nothing of it is changed.
func TestAnything(t *testing.T) {
	r := rand.New(rand.NewPCG(45, 1))
	number := func() int {
		return some(r, r.IntN(6)-1, r.IntN(70000), -1, math.MinInt, math.MaxInt, api.Top, -r.IntN(70000))
	}
	for range 3000 {
		s := crowd(t, r, 1)
		s.Tasks[0].Period, s.Tasks[0].Deadline = number(), number()
		s.Objects[0].Width, s.Objects[0].Slots, s.Objects[0].Kind = number(), number(), number()
		x := api.Outcome{E: api.Errno(r.IntN(2)), Verdict: api.Verdict{R: []int{number(), number(), number(), number(), number()}}}
		for range r.IntN(20) {
			x.Events = append(x.Events, event{T: number(), Kind: number(), Task: number(), A: number(), B: number()})
			x.Calls = append(x.Calls, call{Proc: number(), Object: number(), Op: number(), Rec: make([]uint32, r.IntN(12)), Code: number(), Begin: number(), End: number()})
		}
		l := asking(r)
		if r.IntN(3) == 0 {
			l = append(l, api.Act{Kind: 1 + r.IntN(2), N: number()})
		}
		same, events, calls := system.Copy(s), slices.Clone(x.Events), slices.Clone(x.Calls)
		audit.Demands(number(), x.Events)
		audit.Refines(s, l, x.Events)
		audit.Bounded(s, x.Events, x.Calls)
		audit.Linear(s, x.Calls)
		audit.Sound(s, x.Verdict, x)
		audit.Check(s, l, x)
		if !system.Same(s, same) || !slices.Equal(x.Events, events) || !slices.EqualFunc(x.Calls, calls, func(a, b call) bool { return a.Begin == b.Begin && a.Proc == b.Proc }) {
			t.Fatal("what was handed in has changed")
		}
	}
}
