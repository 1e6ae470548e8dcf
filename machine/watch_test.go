package machine_test

import (
	"math"
	"math/rand/v2"
	"slices"
	"testing"

	"coxswain/api"
	"coxswain/every"
	"coxswain/frame"
	"coxswain/history"
	"coxswain/isa"
	"coxswain/kernel"
	"coxswain/layout"
	"coxswain/machine"
	"coxswain/mem"
	"coxswain/object"
	"coxswain/system"
	"coxswain/weave"
)

// some picks one of the items.
func some[T any](r *rand.Rand, l ...T) T { return l[r.IntN(len(l))] }

// among is an object that some of these tasks share.
func among(r *rand.Rand, tasks []int) api.Object {
	users := slices.Clone(tasks)
	r.Shuffle(len(users), func(a, b int) { users[a], users[b] = users[b], users[a] })
	o := api.Object{Kind: 1 + r.IntN(6), Width: 1 + r.IntN(3), Writer: users[0], Readers: users[1:][:1+r.IntN(min(3, len(users)-1))]}
	for range o.Width {
		o.Init = append(o.Init, r.Uint32())
	}
	switch o.Kind {
	case api.Four:
		o.Readers = o.Readers[:1]
	case api.Seq:
		o.Cap, o.Start = 1+r.IntN(4), some[uint32](r, 0, 8, math.MaxUint32-1, math.MaxUint32-3)
	case api.Ring:
		o.Slots, o.Cap = 2+r.IntN(4), 1+r.IntN(3)
		o.Start = some(r, 0, uint32(o.Slots)*api.Wrap-1-r.Uint32N(3))
	case api.Cab:
		o.Slots, o.Cap = 5+r.IntN(3), 1+r.IntN(3)
	case api.Fifo:
		o.Slots, o.Init, o.Readers = 1+r.IntN(3), nil, o.Readers[:1]
		o.Start = r.Uint32N(2 * uint32(o.Slots))
	}
	return o
}

// writer writes a program of a task: instructions of all kinds, that go where they may.
type writer struct {
	r     *rand.Rand
	own   int
	calls []api.Instr // those that the task may make, but for the words of its own
	width []int       // of each of these: how many words its record has
	code  []api.Instr
}

// plain is an instruction that goes on to the next place.
func (w *writer) plain() api.Instr {
	a, b, c := w.r.IntN(api.Regs), w.r.IntN(api.Regs), w.r.IntN(api.Regs)
	switch w.r.IntN(8) {
	case 0:
		return api.Instr{}
	case 1:
		return api.Instr{Op: api.Set, A: a, N: some(w.r, 0, 1, 2, 7, w.r.Uint32())}
	case 2:
		return api.Instr{Op: api.Move, A: a, B: b}
	case 3:
		return api.Instr{Op: api.Load, A: a, B: b, N: w.r.Uint32N(70)}
	case 4, 5:
		return api.Instr{Op: api.Store, A: a, B: b, N: w.r.Uint32N(70)}
	case 6:
		return api.Instr{Op: api.Cas, A: a, B: b, C: c, N: w.r.Uint32N(70)}
	}
	return api.Instr{Op: api.Add + w.r.IntN(8), A: a, B: b, C: c}
}

// call is a call of the task; a plain instruction, if it may make none.
func (w *writer) call() api.Instr {
	if len(w.calls) == 0 {
		return w.plain()
	}
	k := w.r.IntN(len(w.calls))
	i := w.calls[k]
	i.A, i.N = w.r.IntN(api.Regs), w.r.Uint32N(uint32(w.own-w.width[k]+1))
	return i
}

// block writes some instructions, with loops and ways round that stand in one another, as long as there is room.
func (w *writer) block(depth int) {
	for range 1 + w.r.IntN(4) {
		from := len(w.code)
		if from > 40 {
			return
		}
		switch w.r.IntN(8 + depth) {
		case 0:
			w.code = append(w.code, w.plain())
			w.block(depth + 2)
			w.code = append(w.code, api.Instr{Op: api.Back, C: 1 + w.r.IntN(3), N: uint32(from)})
		case 1, 2:
			w.code = append(w.code, some(w.r, api.Instr{Op: api.Jump}, api.Instr{Op: api.Zero, A: w.r.IntN(api.Regs)}, api.Instr{Op: api.Zero, A: w.r.IntN(api.Regs)}))
			w.block(depth + 2)
			w.code[from].N = uint32(len(w.code))
			w.code = append(w.code, api.Instr{}) // what comes behind may be a loop, into which nobody may jump
		case 3, 4, 5:
			w.code = append(w.code, w.call())
		default:
			w.code = append(w.code, w.plain())
		}
	}
}

// program is a program of a task of the system.
func program(r *rand.Rand, s api.System, i int) []api.Instr {
	w := writer{r: r, own: s.Tasks[i].Own}
	for k, o := range s.Objects {
		if op, ok := system.Role(s, i, k); ok {
			kinds := [...]int{api.OpRead: api.Read, api.OpWrite: api.Write, api.OpPut: api.Put, api.OpTake: api.Take}
			w.calls, w.width = append(w.calls, api.Instr{Op: kinds[op], B: k}), append(w.width, o.Width)
		}
	}
	w.block(0)
	return append(w.code, api.Instr{Op: api.Done})
}

// somebody is a task of any kind, without a program.
func somebody(r *rand.Rand) api.Task {
	x := api.Task{Kind: api.Sporadic, Prio: r.IntN(6), Period: some(r, 3, 15, 30, 50, 80, 120), Own: 3 + r.IntN(6)}
	x.Deadline = max(1, x.Period-r.IntN(20))
	if r.IntN(2) == 0 {
		x.Kind, x.Offset = api.Periodic, r.IntN(20)
	}
	return x
}

// crowd is a system that may be: tasks of all kinds, that share objects of all kinds.
func crowd(r *rand.Rand) api.System {
	var s api.System
	var all []int
	for i := range 2 + r.IntN(4) {
		s.Tasks, all = append(s.Tasks, somebody(r)), append(all, i)
	}
	for range r.IntN(4) {
		s.Objects = append(s.Objects, among(r, all))
	}
	for i := range s.Tasks {
		s.Tasks[i].Code = program(r, s, i)
	}
	return s
}

// asking is who is asked for in a tick, at times also somebody of whom nobody may ask.
func asking(r *rand.Rand, s api.System) []int {
	var asks []int
	for i, x := range s.Tasks {
		if x.Kind == api.Sporadic && r.IntN(12) == 0 {
			asks = append(asks, i)
		}
	}
	if r.IntN(30) == 0 {
		asks = append(asks, some(r, -1, 0, 1, 2, len(s.Tasks), math.MaxInt))
	}
	r.Shuffle(len(asks), func(a, b int) { asks[a], asks[b] = asks[b], asks[a] })
	return asks
}

// watch follows a machine from outside: it goes through the programs, each on words apart, and takes from the machine just when calls end, and what they answered; it notes whose steps the objects had, to weave them anew.
type watch struct {
	s      api.System
	l      api.Layout
	x      *machine.Machine
	k      *kernel.Kernel
	frames map[int]api.Frame
	own    []*mem.Mem
	under  map[int]int // by task: the place of the call that is under way
	calls  []api.Call
	steps  []int // of each call
	turns  [][]int
	ticks  [][]int // of each object: when these turns were
	events []event
}

// watching is a watch on a machine at its beginning.
func watching(t *testing.T, s api.System) *watch {
	t.Helper()
	x := made(t, s)
	l, _ := layout.Of(s)
	k, _ := kernel.New(s.Tasks)
	w := &watch{s: s, l: l, x: x, k: k, frames: map[int]api.Frame{}, under: map[int]int{}, turns: make([][]int, len(s.Objects)), ticks: make([][]int, len(s.Objects))}
	for _, task := range s.Tasks {
		m, _ := mem.New(task.Own)
		w.own = append(w.own, m)
	}
	return w
}

// tick lets the machine make a tick, and holds it against what must come.
func (w *watch) tick(t *testing.T, asks []int) {
	t.Helper()
	before := w.x.Words()
	came := w.x.Tick(asks)
	w.events = append(w.events, came...)
	want := w.k.Open(asks)
	for _, e := range want {
		if e.Kind == api.EvRelease {
			w.frames[e.Task] = frame.Start(w.s.Tasks[e.Task].Code)
		}
	}
	at, ended, called := 0, false, -1
	i, ok := w.k.Pick()
	if ok {
		at = w.frames[i].PC
		f, became := frame.Step(w.frames[i], w.s.Tasks[i].Code, w.own[i], api.Region{Len: w.s.Tasks[i].Own})
		switch became {
		case frame.Ended:
			ended = true
			delete(w.frames, i)
		case frame.Called:
			var l []event
			called, l = w.call(i, came)
			want = append(want, l...)
		default:
			w.frames[i] = f
		}
	}
	want = append(want, w.k.Close(at, ended)...)
	if !slices.Equal(came, want) {
		t.Fatalf("%v: came\n%v, not\n%v", w.s, came, want)
	}
	w.hold(t, before, i, called)
}

// call makes the step of a call, of which the machine tells whether it was the last one, and is the object, and what must come of it.
func (w *watch) call(i int, came []event) (int, []event) {
	instr := w.s.Tasks[i].Code[w.frames[i].PC]
	k, op, _ := isa.Calls(instr)
	o := w.s.Objects[k]
	words := api.Region{At: int(instr.N), Len: o.Width}
	var want []event
	place, reads := object.Reader(o, i)
	c, under := w.under[i]
	if !under {
		c = len(w.calls)
		w.under[i] = c
		x := api.Call{Proc: i, Object: k, Op: op, Begin: w.k.Now(), End: -1}
		if !reads {
			x.Rec, _ = w.own[i].Look(words)
		}
		w.calls, w.steps = append(w.calls, x), append(w.steps, 0)
		want = append(want, event{T: w.k.Now(), Kind: api.EvCall, Task: i, A: k, B: op})
	}
	proc := 0
	if reads {
		proc = place + 1
	}
	w.steps[c]++
	w.turns[k], w.ticks[k] = append(w.turns[k], proc), append(w.ticks[k], w.k.Now())
	for _, e := range came {
		if e.Kind == api.EvBack {
			w.back(i, c, words, e.B)
			want = append(want, event{T: w.k.Now(), Kind: api.EvBack, Task: i, A: k, B: e.B})
		}
	}
	return k, want
}

// back ends a call, with what the machine's call answered.
func (w *watch) back(i, c int, words api.Region, code int) {
	delete(w.under, i)
	x := &w.calls[c]
	x.Code, x.End = code, w.k.Now()
	if l := w.x.Calls(); (x.Op == api.OpRead || x.Op == api.OpTake) && c < len(l) {
		x.Rec = l[c].Rec
		w.own[i].Fill(words.At, x.Rec)
	}
	w.frames[i], _ = frame.Pass(w.frames[i], w.s.Tasks[i].Code, uint32(code))
}

// hold holds the machine's frames, its words and its calls against what they must be; of objects just the one that was called may have changed, in one word.
func (w *watch) hold(t *testing.T, before []uint32, i, called int) {
	t.Helper()
	after := w.x.Words()
	for j := range w.s.Tasks {
		f, ok := w.x.Frame(j)
		want, active := w.frames[j]
		if ok != active || f.PC != want.PC || f.Regs != want.Regs || !slices.Equal(f.Turns, want.Turns) {
			t.Fatalf("%v: the frame of %d is %v, %t, not %v, %t", w.s, j, f, ok, want, active)
		}
		own := w.l.Own[j]
		if l, _ := w.own[j].Look(api.Region{Len: own.Len}); !slices.Equal(after[own.At:][:own.Len], l) {
			t.Fatalf("%v: the words of %d, behind a step of %d, are %v, not %v", w.s, j, i, after[own.At:][:own.Len], l)
		}
	}
	for k, o := range w.l.Objects {
		changed := 0
		for at := o.At; at < o.At+o.Len; at++ {
			if before[at] != after[at] {
				changed++
			}
		}
		if changed > 1 || changed > 0 && k != called {
			t.Fatalf("%v: object %d has changed in %d words, by a step of %d on %d", w.s, k, changed, i, called)
		}
	}
	if w.x.Now() != w.k.Now() || len(after) != w.l.Size || !slices.EqualFunc(w.x.Calls(), w.calls, alike) {
		t.Fatalf("%v: at %d, not %d: %v, not %v", w.s, w.x.Now(), w.k.Now(), w.x.Calls(), w.calls)
	}
}

// alike tells whether two calls are the same.
func alike(a, b api.Call) bool {
	return a.Proc == b.Proc && a.Object == b.Object && a.Op == b.Op && slices.Equal(a.Rec, b.Rec) && a.Code == b.Code && a.Begin == b.Begin && a.End == b.End
}

// finish holds what came in all ticks against what must be of it: the jobs, and all calls, woven anew by whose steps came.
func (w *watch) finish(t *testing.T) {
	t.Helper()
	if !slices.Equal(w.x.Jobs(), w.k.Jobs()) {
		t.Fatalf("%v: jobs %v, not %v", w.s, w.x.Jobs(), w.k.Jobs())
	}
	l := w.x.Calls()
	if !history.Right(l) || !slices.EqualFunc(l, history.Sort(l), alike) {
		t.Fatalf("%v: no history: %v", w.s, l)
	}
	for c, steps := range w.steps {
		if o := w.s.Objects[l[c].Object]; steps > object.Bound(o, l[c].Op) {
			t.Fatalf("%v: %d steps of %v", w.s, steps, l[c])
		}
	}
	for k, o := range w.s.Objects {
		own := history.Of(l, k)
		if anew := w.anew(k); !slices.EqualFunc(anew, own, alike) {
			t.Fatalf("%v: object %d: %v, not %v", w.s, k, own, anew)
		}
		if !every.Linear(o, own) {
			t.Fatalf("%v: object %d does not linearize: %v", w.s, k, own)
		}
	}
}

// anew is an object's calls, as weave tells them, if its steps come as they came.
func (w *watch) anew(k int) []api.Call {
	o := w.s.Objects[k]
	users := append([]int{o.Writer}, o.Readers...)
	procs := make([][]api.Todo, len(users))
	for _, c := range history.Of(w.calls, k) {
		todo := api.Todo{Op: c.Op, Rec: c.Rec}
		if c.Proc != o.Writer {
			todo.Rec = nil
		}
		proc := slices.Index(users, c.Proc)
		procs[proc] = append(procs[proc], todo)
	}
	l, _ := weave.Run(o, procs, w.turns[k])
	for i := range l {
		c := &l[i]
		c.Proc, c.Object, c.Begin = users[c.Proc], k, w.ticks[k][c.Begin]
		if c.End >= 0 {
			c.End = w.ticks[k][c.End]
		}
	}
	return l
}

// P41.3 to P41.5, P2, P6: machines of all sorts, followed from outside.
func TestWatch(t *testing.T) {
	r := rand.New(rand.NewPCG(41, 5))
	met := map[int]int{}
	codes := map[[2]int]int{} // by operation, and how it ended
	long := 0
	for range 1500 {
		w := watching(t, crowd(r))
		for range 50 + r.IntN(250) {
			w.tick(t, asking(r, w.s))
		}
		w.finish(t)
		for _, e := range w.events {
			met[e.Kind]++
		}
		for c, call := range w.calls {
			if call.End >= 0 {
				codes[[2]int{call.Op, call.Code}]++
			}
			if call.End-call.Begin >= w.steps[c] {
				long++
			}
		}
	}
	for kind := api.EvRelease; kind <= api.EvBack; kind++ {
		if met[kind] < 500 {
			t.Error("too few events of some kind:", met)
		}
	}
	for _, c := range [][2]int{{api.OpRead, api.Good}, {api.OpRead, api.Retry}, {api.OpWrite, api.Good}, {api.OpPut, api.Good}, {api.OpPut, api.Full}, {api.OpTake, api.Good}, {api.OpTake, api.Empty}} {
		if codes[c] < 50 {
			t.Error("too few calls of some end:", codes)
		}
	}
	if long < 500 {
		t.Errorf("just %d calls were interrupted", long)
	}
}
