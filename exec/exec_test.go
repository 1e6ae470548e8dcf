package exec_test

import (
	"math/rand/v2"
	"slices"
	"strings"
	"testing"

	"coxswain/admit"
	"coxswain/api"
	"coxswain/exec"
	"coxswain/image"
	"coxswain/machine"
	"coxswain/script"
	"coxswain/source"
	"coxswain/system"
)

type event = api.Event

// nowhere is the spot where nothing is said.
var nowhere = api.Spot{Task: -1, Object: -1, At: -1}

// sys is the system of a text.
func sys(t *testing.T, text string) api.System {
	t.Helper()
	s, line, e := source.Parse(text)
	if e != api.OK {
		t.Fatalf("line %d of %q: %d", line, text, e)
	}
	return s
}

// img is the image of a system.
func img(t *testing.T, s api.System) []byte {
	t.Helper()
	b, ok := image.Encode(s)
	if !ok {
		t.Fatalf("no image of %v", s)
	}
	return b
}

// acts is the acts of a script, which may be.
func acts(t *testing.T, text string) []api.Act {
	t.Helper()
	l, line, e := script.Parse(text)
	if e != api.OK {
		t.Fatalf("line %d of %q: %d", line, text, e)
	}
	return l
}

// short is a task of two steps, and pair two of them, of which the second one goes ahead, and is asked for.
const (
	short = "task periodic 0 9 0 9 1\nnop\ndone\nend\n"
	pair  = short + "task sporadic 1 5 0 5 1\nnop\ndone\nend\n"
)

// some systems that may be, and are not admitted: a job that may end too late, a read that nobody lets end, a ring of too few slots.
const (
	tooLate  = "task periodic 0 9 0 1 1\nnop\ndone\nend\n"
	hopeless = "task periodic 1 20 0 20 1\nread r0 o0 0\ndone\nend\ntask periodic 0 20 0 20 1\nwrite r0 o0 0\ndone\nend\nobject seq 1 0 3 0 1 readers 0 init 5\n"
	tooSmall = "task periodic 0 40 0 40 1\nread r0 o0 0\ndone\nend\ntask periodic 1 20 0 20 1\nwrite r0 o0 0\ndone\nend\nobject ring 1 2 1 0 1 readers 0 init 5\n"
)

// same tells whether two calls are the same.
func same(a, b api.Call) bool {
	return a.Proc == b.Proc && a.Object == b.Object && a.Op == b.Op && slices.Equal(a.Rec, b.Rec) && a.Code == b.Code && a.Begin == b.Begin && a.End == b.End
}

// verdicts tells whether two verdicts are the same.
func verdicts(a, b api.Verdict) bool {
	return a.E == b.E && a.Task == b.Task && a.Object == b.Object && slices.Equal(a.R, b.R)
}

// holds fails if an outcome is not as it must be.
func holds(t *testing.T, what string, x, want api.Outcome) {
	t.Helper()
	if x.E != want.E || x.Where != want.Where || !verdicts(x.Verdict, want.Verdict) || !slices.Equal(x.Events, want.Events) || !slices.EqualFunc(x.Calls, want.Calls, same) || !slices.Equal(x.Jobs, want.Jobs) {
		t.Fatalf("%s:\n%v, not\n%v", what, x, want)
	}
}

// P44.2: what Decode tells, what Check tells, and the system.
func TestLoad(t *testing.T) {
	good := img(t, sys(t, pair))
	for name, b := range map[string][]byte{
		"no bytes": nil, "an empty list": {}, "two bytes": good[:2], "another head": []byte("CX2"), "cut": good[:len(good)-1], "another sum": append(slices.Clone(good[:len(good)-1]), good[len(good)-1]+1),
		"one more": append(slices.Clone(good), 0), "too many": make([]byte, api.MaxBytes+1),
	} {
		_, at, want := image.Decode(b)
		s, spot, e := exec.Load(b)
		if e != want || e == api.OK || spot != (api.Spot{Task: -1, Object: -1, At: at}) || len(s.Tasks)+len(s.Objects) != 0 {
			t.Errorf("%s: %v, %v, %d, not %d, %d", name, s, spot, e, at, want)
		}
	}
	for name, text := range map[string]string{
		"nothing": "", "an object alone": "object fifo 1 1 0 0 0 readers 1 init\n", "no period": "task periodic 0 0 0 1 1\ndone\nend\n", "no done": "task periodic 0 9 0 9 1\nnop\nend\n",
		"a wrong object": short + "object fifo 1 0 0 0 0 readers 1 init\n", "nobody": pair + "object fifo 1 1 0 0 0 readers 5 init\n", "no object": "task periodic 0 9 0 9 1\nnop\nput r0 o3 0\ndone\nend\n",
	} {
		s := sys(t, text)
		wantSpot, want := system.Check(s)
		got, spot, e := exec.Load(img(t, s))
		if e != want || e == api.OK || spot != wantSpot || len(got.Tasks)+len(got.Objects) != 0 {
			t.Errorf("%s: %v, %v, %d, not %v, %d", name, got, spot, e, wantSpot, want)
		}
	}
	for _, text := range []string{short, pair, tooLate, hopeless, tooSmall} {
		s := sys(t, text)
		if got, spot, e := exec.Load(img(t, s)); e != api.OK || spot != nowhere || !system.Same(got, s) {
			t.Errorf("%q: %v, %v, %d", text, got, spot, e)
		}
	}
}

// P44.3: what Check tells comes ahead of acts that are not right; with an error there is nothing else.
func TestGoErrors(t *testing.T) {
	wrong := [][]api.Act{{{}}, {{Kind: api.ActRun, N: -1}}, {{Kind: api.ActRun, N: api.MaxTicks + 1}}, {{Kind: api.ActRun, N: 5}, {Kind: api.ActAsk, N: 8}}, make([]api.Act, api.MaxActs+1), slices.Repeat([]api.Act{{Kind: api.ActRun}}, api.MaxActs+1)}
	right := [][]api.Act{nil, {}, {{Kind: api.ActRun, N: 5}}}
	bad := sys(t, "task periodic 0 9 0 9 1\nnop\nput r0 o3 0\ndone\nend\n")
	for _, l := range append(wrong, right...) {
		holds(t, "a wrong system", exec.Go(bad, l), api.Outcome{E: api.ErrCall, Where: api.Spot{Task: 0, Object: 3, At: 1}})
		holds(t, "nothing", exec.Go(api.System{}, l), api.Outcome{E: api.ErrArg, Where: nowhere})
	}
	for _, l := range wrong {
		for _, text := range []string{short, pair, tooLate} {
			holds(t, "wrong acts", exec.Go(sys(t, text), l), api.Outcome{E: api.ErrArg, Where: nowhere})
			for _, force := range []bool{false, true} {
				holds(t, "wrong acts, of bytes", exec.Run(img(t, sys(t, text)), l, force), api.Outcome{E: api.ErrArg, Where: nowhere})
			}
		}
	}
	holds(t, "no acts", exec.Go(sys(t, pair), nil), api.Outcome{Where: nowhere})
}

// P44.4: Load's error comes first, then acts that are not right, then the verdict, but if it is forced.
func TestRunErrors(t *testing.T) {
	wrong, right := []api.Act{{}}, acts(t, "run 3\n")
	bad := img(t, sys(t, "task periodic 0 9 0 9 1\nnop\nput r0 o3 0\ndone\nend\n"))
	for _, force := range []bool{false, true} {
		for _, l := range [][]api.Act{wrong, right, nil} {
			holds(t, "no bytes", exec.Run(nil, l, force), api.Outcome{E: api.ErrEnd, Where: api.Spot{Task: -1, Object: -1}})
			holds(t, "bytes that end ahead", exec.Run(bad[:9], l, force), api.Outcome{E: api.ErrEnd, Where: api.Spot{Task: -1, Object: -1, At: 9}})
			holds(t, "a wrong system", exec.Run(bad, l, force), api.Outcome{E: api.ErrCall, Where: api.Spot{Task: 0, Object: 3, At: 1}})
		}
	}
	for text, want := range map[string]api.Outcome{
		tooLate:  {E: api.ErrLate, Where: api.Spot{Task: 0, Object: -1, At: -1}, Verdict: api.Verdict{E: api.ErrLate, Task: 0, Object: -1}},
		hopeless: {E: api.ErrRetry, Where: api.Spot{Task: 0, Object: 0, At: -1}, Verdict: api.Verdict{E: api.ErrRetry}},
		tooSmall: {E: api.ErrSize, Where: api.Spot{Task: 0, Object: 0, At: -1}, Verdict: api.Verdict{E: api.ErrSize}},
	} {
		b := img(t, sys(t, text))
		holds(t, "not admitted", exec.Run(b, right, false), want)
		holds(t, "wrong acts", exec.Run(b, wrong, false), api.Outcome{E: api.ErrArg, Where: nowhere})
		forced := exec.Go(sys(t, text), right)
		forced.Verdict = want.Verdict
		holds(t, "forced", exec.Run(b, right, true), forced)
		if forced.E != api.OK || len(forced.Events) < 3 {
			t.Error(forced)
		}
	}
	admitted := exec.Go(sys(t, pair), right)
	if !verdicts(admitted.Verdict, api.Verdict{}) {
		t.Error(admitted.Verdict)
	}
	admitted.Verdict = api.Verdict{Task: -1, Object: -1, R: []int{4, 2}}
	for _, force := range []bool{false, true} {
		holds(t, "admitted", exec.Run(img(t, sys(t, pair)), right, force), admitted)
	}
}

// P44.3: who is asked for, and when: in the tick that comes next, in order; behind the last tick it comes to nothing.
func TestAsks(t *testing.T) {
	l := acts(t, "ask 1\nask 0\nrun 0\nask 7\nrun 5\nask 1\nask 1\nrun 1\nrun 0\nask 1\nask 0\n")
	want := []event{
		{Kind: api.EvRelease}, {Kind: api.EvRelease, Task: 1}, {Kind: api.EvRefuse}, {Kind: api.EvRefuse, Task: 7}, {Kind: api.EvStep, Task: 1},
		{T: 1, Kind: api.EvStep, Task: 1, B: 1}, {T: 1, Kind: api.EvDone, Task: 1, B: 2}, {T: 2, Kind: api.EvStep}, {T: 3, Kind: api.EvStep, B: 1}, {T: 3, Kind: api.EvDone, B: 4},
		{T: 4, Kind: api.EvIdle, Task: -1},
		{T: 5, Kind: api.EvRelease, Task: 1, A: 1}, {T: 5, Kind: api.EvRefuse, Task: 1}, {T: 5, Kind: api.EvStep, Task: 1, A: 1},
	}
	jobs := []api.Job{{Deadline: 9, Start: 2, End: 4, Steps: 2}, {Task: 1, Deadline: 5, End: 2, Steps: 2}, {Task: 1, No: 1, Release: 5, Deadline: 10, Start: 5, End: -1, Steps: 1}}
	holds(t, "asked", exec.Go(sys(t, pair), l), api.Outcome{Where: nowhere, Events: want, Jobs: jobs})
}

// ticked is what P44.3 says, tick by tick.
func ticked(t *testing.T, s api.System, l []api.Act) api.Outcome {
	t.Helper()
	x, _, e := machine.New(s)
	if e != api.OK {
		t.Fatal(e)
	}
	o := api.Outcome{Where: nowhere}
	for range script.Ticks(l) {
		o.Events = append(o.Events, x.Tick(script.At(l, x.Now()))...)
	}
	o.Calls, o.Jobs = x.Calls(), x.Jobs()
	return o
}

// some picks one of the items.
func some[T any](r *rand.Rand, l ...T) T { return l[r.IntN(len(l))] }

// object is an object of any kind, that the first of these tasks writes and the others read.
func object(r *rand.Rand, users []int) api.Object {
	o := api.Object{Kind: 1 + r.IntN(6), Width: 1 + r.IntN(2), Writer: users[0], Readers: users[1:2]}
	o.Init = make([]uint32, o.Width)
	if len(users) > 2 && (o.Kind == api.Chen || o.Kind >= api.Seq && o.Kind <= api.Cab) {
		o.Readers = users[1:3]
	}
	switch o.Kind {
	case api.Seq:
		o.Cap, o.Start = 1+r.IntN(4), 1<<32-2
	case api.Ring:
		o.Slots, o.Cap = 2+r.IntN(6), 1+r.IntN(2)
		o.Start = uint32(o.Slots)*api.Wrap - 1
	case api.Cab:
		o.Slots, o.Cap = 4, 1+r.IntN(4)
	case api.Fifo:
		o.Slots, o.Init = 1+r.IntN(3), nil
	}
	return o
}

// crowd is a system that may be, and may be admitted: each task counts a word of its own, and makes most of the calls that it may.
func crowd(r *rand.Rand) api.System {
	var s api.System
	for range 2 + r.IntN(3) {
		x := api.Task{Kind: 1 + r.IntN(2), Prio: r.IntN(9), Period: some(r, 20, 40, 60, 90, 150, 400), Own: 3}
		x.Deadline = x.Period - r.IntN(8)
		if x.Kind == api.Periodic {
			x.Offset = r.IntN(30)
		}
		x.Code = []api.Instr{{Op: api.Load, A: 1}, {Op: api.Set, A: 2, N: 1}, {Op: api.Add, A: 1, B: 1, C: 2}, {Op: api.Store, A: 1}}[r.IntN(4):]
		s.Tasks = append(s.Tasks, x)
	}
	for range 1 + r.IntN(2) {
		s.Objects = append(s.Objects, object(r, r.Perm(len(s.Tasks))))
	}
	for i := range s.Tasks {
		x := &s.Tasks[i]
		x.Code = slices.Clone(x.Code)
		for k := range s.Objects {
			if op, ok := system.Role(s, i, k); ok && r.IntN(5) > 0 {
				x.Code = append(x.Code, api.Instr{Op: api.Read + op - api.OpRead, A: 3, B: k, N: r.Uint32N(2)})
			}
		}
		x.Code = append(x.Code, api.Instr{Op: api.Done})
	}
	return s
}

// asking is acts that are right, of at most so many ticks; one in so many of the acts asks.
func asking(r *rand.Rand, ticks, rarely int) []api.Act {
	var l []api.Act
	for range r.IntN(200) {
		l = append(l, api.Act{Kind: api.ActAsk, N: r.IntN(5)})
		if r.IntN(rarely) > 0 {
			l[len(l)-1] = api.Act{Kind: api.ActRun, N: r.IntN(ticks/200 + 1)}
		}
	}
	return l
}

// steps is how many ticks there were: each has a step, or is nobody's.
func steps(l []event) int {
	n := 0
	for _, e := range l {
		if e.Kind == api.EvStep || e.Kind == api.EvIdle {
			n++
		}
	}
	return n
}

// late tells whether somebody was late, or took longer than he may, or a read was spoilt.
func late(o api.Outcome) bool {
	for _, e := range o.Events {
		switch e.Kind {
		case api.EvMiss, api.EvOver:
			return true
		case api.EvDone:
			if len(o.Verdict.R) > 0 && e.B > o.Verdict.R[e.Task] {
				return true
			}
		case api.EvBack:
			if e.B == api.Retry {
				return true
			}
		}
	}
	return false
}

// P44.3 to P44.5, P3: runs are what their machines do tick by tick; of whoever is admitted nobody is late, and no read is spoilt.
func TestRuns(t *testing.T) {
	r := rand.New(rand.NewPCG(44, 3))
	admitted, wrong := 0, 0
	for range 1500 {
		s := crowd(r)
		l := asking(r, some(r, 200, 2000, 8000), 1+r.IntN(4))
		want := ticked(t, s, l)
		holds(t, "tick by tick", exec.Go(s, l), want)
		want.Verdict = admit.Check(s)
		holds(t, "forced", exec.Run(img(t, s), l, true), want)
		o := exec.Run(img(t, s), l, false)
		if want.Verdict.E != api.OK {
			want = api.Outcome{E: want.Verdict.E, Where: api.Spot{Task: want.Verdict.Task, Object: want.Verdict.Object, At: -1}, Verdict: want.Verdict}
			wrong++
		} else if late(want) {
			t.Fatalf("%v, %v: admitted, and late: %v", s, l, want)
		} else {
			admitted++
		}
		holds(t, "whether it is admitted", o, want)
	}
	if admitted < 300 || wrong < 300 {
		t.Error(admitted, wrong)
	}
}

// P3: what is not admitted may go wrong.
func TestForced(t *testing.T) {
	for _, text := range []string{tooLate, hopeless} {
		if o := exec.Run(img(t, sys(t, text)), acts(t, "run 300\n"), true); o.E != api.OK || o.Verdict.E == api.OK || steps(o.Events) != 300 {
			t.Error(o)
		}
	}
	if o := exec.Run(img(t, sys(t, tooLate)), acts(t, "run 300\n"), true); !late(o) {
		t.Error(o)
	}
}

// P1: whatever the bytes are: an error, with which nothing ran, or a run of just so many ticks.
func TestAnyBytes(t *testing.T) {
	r := rand.New(rand.NewPCG(1, 44))
	ran, failed := 0, map[api.Errno]int{}
	for range 20000 {
		b := img(t, crowd(r))
		for range r.IntN(3) {
			b[r.IntN(len(b)-2)] = byte(some(r, 0, 1, 2, 17, 21, 255, r.IntN(256)))
		}
		if r.IntN(8) > 0 {
			sum := image.Sum(b[:len(b)-2])
			b[len(b)-2], b[len(b)-1] = byte(sum), byte(sum>>8)
		}
		if r.IntN(20) == 0 {
			b = b[:r.IntN(len(b))]
		}
		was := slices.Clone(b)
		l := asking(r, 200, 2)
		if r.IntN(20) == 0 {
			l = append(l, some(r, api.Act{}, api.Act{Kind: api.ActAsk, N: -1}, api.Act{Kind: api.ActRun, N: 1 << 62}))
		}
		o := exec.Run(b, l, r.IntN(2) == 0)
		if o.E == api.OK {
			ran++
			if steps(o.Events) != script.Ticks(l) || o.Where != nowhere {
				t.Fatalf("%v, %v: %v", b, l, o)
			}
		} else {
			failed[o.E]++
			if len(o.Events)+len(o.Calls)+len(o.Jobs) != 0 || o.Where.Task < -1 {
				t.Fatalf("%v, %v: %v", b, l, o)
			}
		}
		if !slices.Equal(b, was) {
			t.Fatal("the bytes were changed")
		}
	}
	if ran < 3000 || len(failed) < 8 {
		t.Error(ran, failed)
	}
}

// P6: it does not matter how ticks are cut.
func TestCut(t *testing.T) {
	r := rand.New(rand.NewPCG(6, 44))
	for range 300 {
		s := crowd(r)
		l := asking(r, 2000, 3)
		var cut []api.Act
		for _, a := range l {
			for a.Kind == api.ActRun && a.N > 0 && r.IntN(3) > 0 {
				n := r.IntN(a.N + 1)
				cut = append(cut, api.Act{Kind: api.ActRun, N: n})
				a.N -= n
			}
			cut = append(cut, a)
		}
		holds(t, "cut", exec.Go(s, cut), exec.Go(s, l))
	}
}

// P7: a text and an image of one system lead to the same.
func TestTextAndImage(t *testing.T) {
	r := rand.New(rand.NewPCG(7, 44))
	for range 200 {
		s := crowd(r)
		l := asking(r, 2000, 3)
		text, _ := source.Print(s)
		want := exec.Go(sys(t, text), l)
		want.Verdict = admit.Check(s)
		holds(t, "an image", exec.Run(img(t, s), l, true), want)
	}
}

// P44.1: what is handed in is not changed, what is told shares nothing with it, or with another answer.
func TestApart(t *testing.T) {
	s := sys(t, strings.Replace(tooSmall, "ring 1 2", "ring 1 4", 1))
	b, l := img(t, s), acts(t, "run 100\n")
	wasB, wasL, wasS := slices.Clone(b), slices.Clone(l), system.Copy(s)
	want := exec.Run(b, l, false)
	if want.E != api.OK || len(want.Calls) < 5 || len(want.Verdict.R) != 2 {
		t.Fatal(want)
	}
	for _, o := range []api.Outcome{exec.Run(b, l, false), exec.Go(s, l)} {
		for _, c := range o.Calls {
			clear(c.Rec[:cap(c.Rec)])
		}
		clear(o.Events[:cap(o.Events)])
		clear(o.Calls[:cap(o.Calls)])
		clear(o.Jobs[:cap(o.Jobs)])
		clear(o.Verdict.R)
	}
	loaded, _, _ := exec.Load(b)
	clear(loaded.Tasks[0].Code)
	clear(loaded.Objects[0].Init)
	clear(loaded.Tasks)
	holds(t, "once more", exec.Run(b, l, false), want)
	if !slices.Equal(b, wasB) || !slices.Equal(l, wasL) || !system.Same(s, wasS) {
		t.Error("what was handed in has changed")
	}
}

// P44.3: a run of all ticks that may be, of programs that are as long as may be.
func TestLong(t *testing.T) {
	var text strings.Builder
	for i := range api.MaxTasks {
		text.WriteString("task sporadic " + string(rune('0'+i)) + " 1 0 1 1\n" + strings.Repeat("nop\n", api.MaxCode-2) + "back 0 255\ndone\nend\n")
	}
	l := []api.Act{{Kind: api.ActAsk, N: 7}, {Kind: api.ActRun, N: api.MaxTicks}}
	o := exec.Go(sys(t, text.String()), l)
	if o.E != api.OK || steps(o.Events) != api.MaxTicks || len(o.Jobs) != 1 || o.Jobs[0].Steps != 256*63+1 {
		t.Error(o.E, len(o.Events), o.Jobs)
	}
}
