package weave_test

import (
	"math"
	"math/rand/v2"
	"reflect"
	"slices"
	"testing"

	"coxswain/api"
	"coxswain/history"
	"coxswain/linfifo"
	"coxswain/linreg"
	"coxswain/mem"
	"coxswain/object"
	"coxswain/record"
	"coxswain/weave"
)

// kinds is an object of each kind, of this width, of so many readers where there may be several, and of so many attempts.
func kinds(width, readers, attempts int) []api.Object {
	l := []api.Object{
		{Kind: api.Four}, {Kind: api.Chen}, {Kind: api.Seq, Cap: attempts}, {Kind: api.Ring, Slots: 3, Cap: attempts}, {Kind: api.Cab, Slots: readers + 2, Cap: attempts}, {Kind: api.Fifo, Slots: 2},
	}
	for i := range l {
		l[i].Width, l[i].Readers = width, make([]int, readers)
		if l[i].Kind == api.Four || l[i].Kind == api.Fifo {
			l[i].Readers = make([]int, 1)
		}
		if l[i].Kind != api.Fifo {
			l[i].Init = record.Stamp(width, 0)
		}
	}
	return l
}

// todos is what the processes of an object are to do: so many writes of stamps, and so many reads of each reader.
func todos(o api.Object, writes, reads int) [][]api.Todo {
	w, r, _ := object.Ops(o.Kind)
	procs := make([][]api.Todo, 1+len(o.Readers))
	for k := range writes {
		procs[0] = append(procs[0], api.Todo{Op: w, Rec: record.Stamp(o.Width, uint32(k+1))})
	}
	for i := range o.Readers {
		procs[1+i] = slices.Repeat([]api.Todo{{Op: r}}, reads)
	}
	return procs
}

// P24.2: Fault, and that Run, Finish and Bound tell it.
func TestFault(t *testing.T) {
	seq, fifo := kinds(2, 2, 3)[2], kinds(2, 1, 3)[5]
	write := func(rec ...uint32) api.Todo { return api.Todo{Op: api.OpWrite, Rec: rec} }
	put := func(rec ...uint32) api.Todo { return api.Todo{Op: api.OpPut, Rec: rec} }
	read, take := api.Todo{Op: api.OpRead}, api.Todo{Op: api.OpTake}
	unlike := func(change func(o *api.Object)) api.Object {
		o := seq
		change(&o)
		return o
	}
	for _, c := range []struct {
		name  string
		o     api.Object
		procs [][]api.Todo
		want  api.Errno
	}{
		{"nothing to do", seq, [][]api.Todo{nil, nil, nil}, api.OK},
		{"all to do", seq, [][]api.Todo{{write(1, 2), write(3, 4)}, {read}, {read, read}}, api.OK},
		{"an empty record to read", seq, [][]api.Todo{nil, {{Op: api.OpRead, Rec: []uint32{}}}, nil}, api.OK},
		{"a queue", fifo, [][]api.Todo{{put(1, 2)}, {take, take}}, api.OK},
		{"tasks that are none", unlike(func(o *api.Object) { o.Writer, o.Readers = -5, []int{99, 99} }), [][]api.Todo{{write(1, 2)}, nil, nil}, api.OK},
		{"no kind", unlike(func(o *api.Object) { o.Kind = 0 }), [][]api.Todo{nil, nil, nil}, api.ErrArg},
		{"a kind above", unlike(func(o *api.Object) { o.Kind = 7 }), [][]api.Todo{nil, nil, nil}, api.ErrArg},
		{"not shaped", unlike(func(o *api.Object) { o.Cap = 0 }), [][]api.Todo{nil, nil, nil}, api.ErrArg},
		{"not shaped, and a wrong operation", unlike(func(o *api.Object) { o.Start = 1 }), [][]api.Todo{{take}, nil, nil}, api.ErrArg},
		{"nothing at all", api.Object{}, nil, api.ErrArg},
		{"no processes", seq, nil, api.ErrArg},
		{"a process too few", seq, [][]api.Todo{{write(1, 2)}, {read}}, api.ErrArg},
		{"a process too many", seq, [][]api.Todo{{write(1, 2)}, {read}, {read}, nil}, api.ErrArg},
		{"a process too many, and a wrong operation", seq, [][]api.Todo{{take}, nil, nil, nil}, api.ErrArg},
		{"the writer reads", seq, [][]api.Todo{{read}, nil, nil}, api.ErrCall},
		{"a reader writes", seq, [][]api.Todo{nil, {write(1, 2)}, nil}, api.ErrCall},
		{"the last reader writes", seq, [][]api.Todo{{write(1, 2)}, {read}, {read, write(1, 2)}}, api.ErrCall},
		{"the writer puts", seq, [][]api.Todo{{put(1, 2)}, nil, nil}, api.ErrCall},
		{"a reader takes", seq, [][]api.Todo{nil, {take}, nil}, api.ErrCall},
		{"a queue is written", fifo, [][]api.Todo{{write(1, 2)}, nil}, api.ErrCall},
		{"a queue is read", fifo, [][]api.Todo{nil, {read}}, api.ErrCall},
		{"who puts takes", fifo, [][]api.Todo{{take}, nil}, api.ErrCall},
		{"no operation", seq, [][]api.Todo{nil, {{}}, nil}, api.ErrCall},
		{"a strange operation", seq, [][]api.Todo{{{Op: math.MinInt, Rec: []uint32{1, 2}}}, nil, nil}, api.ErrCall},
		{"a record too short", seq, [][]api.Todo{{write(1)}, nil, nil}, api.ErrForm},
		{"a record too long", seq, [][]api.Todo{{write(1, 2, 3)}, nil, nil}, api.ErrForm},
		{"no record", fifo, [][]api.Todo{{put()}, nil}, api.ErrForm},
		{"a record to read", seq, [][]api.Todo{nil, nil, {{Op: api.OpRead, Rec: []uint32{1, 2}}}}, api.ErrForm},
		{"a wrong operation with a wrong record", seq, [][]api.Todo{{{Op: api.OpPut, Rec: []uint32{1}}}, nil, nil}, api.ErrCall},
		{"a wrong record ahead of a wrong operation", seq, [][]api.Todo{{write(1), read}, nil, nil}, api.ErrForm},
		{"a wrong operation ahead of a wrong record", seq, [][]api.Todo{{read, write(1)}, nil, nil}, api.ErrCall},
		{"a wrong record of a process ahead", seq, [][]api.Todo{{write(1)}, {take}, nil}, api.ErrForm},
		{"a wrong operation of a process ahead", seq, [][]api.Todo{nil, {take}, {{Op: api.OpRead, Rec: []uint32{1, 2}}}}, api.ErrCall},
	} {
		if e := weave.Fault(c.o, c.procs); e != c.want {
			t.Errorf("%s: Fault: %d, not %d", c.name, e, c.want)
		}
		ran, e := weave.Run(c.o, c.procs, []int{0, 1, 0})
		if e != c.want || e != api.OK && len(ran) != 0 {
			t.Errorf("%s: Run: %v %d", c.name, ran, e)
		}
		finished, e := weave.Finish(c.o, c.procs, []int{0, 1, 0})
		if e != c.want || e != api.OK && len(finished) != 0 {
			t.Errorf("%s: Finish: %v %d", c.name, finished, e)
		}
		if c.want != api.OK && weave.Bound(c.o, c.procs) != 0 {
			t.Errorf("%s: Bound is not 0", c.name)
		}
	}
}

// P24.3: what is told of turns, of which some are no steps.
func TestRun(t *testing.T) {
	queue := api.Object{Kind: api.Fifo, Width: 1, Slots: 1, Readers: []int{1}}
	attempt := api.Object{Kind: api.Seq, Width: 1, Cap: 1, Init: []uint32{5}, Readers: []int{1}}
	put := func(w uint32) api.Todo { return api.Todo{Op: api.OpPut, Rec: []uint32{w}} }
	write := func(w uint32) api.Todo { return api.Todo{Op: api.OpWrite, Rec: []uint32{w}} }
	read, take := api.Todo{Op: api.OpRead}, api.Todo{Op: api.OpTake}
	one := func(w uint32) []uint32 { return []uint32{w} }
	for _, c := range []struct {
		name  string
		o     api.Object
		procs [][]api.Todo
		turns []int
		want  []api.Call
	}{
		{"no turns", queue, [][]api.Todo{{put(7)}, {take}}, nil, nil},
		{"nothing to do", queue, [][]api.Todo{nil, nil}, []int{0, 1, 0, 1}, nil},
		{"put, and take", queue, [][]api.Todo{{put(7)}, {take}}, []int{0, 0, 0, 0, 1, 1, 1, 1},
			[]api.Call{{Op: api.OpPut, Rec: one(7), End: 3}, {Proc: 1, Op: api.OpTake, Rec: one(7), Begin: 4, End: 7}}},
		{"turns that are no steps", queue, [][]api.Todo{{put(7)}, {take}}, []int{-1, 0, 2, 0, math.MaxInt, 0, 0, 0, 0, math.MinInt, 1, 1, 1, 1, 1, 0},
			[]api.Call{{Op: api.OpPut, Rec: one(7), End: 3}, {Proc: 1, Op: api.OpTake, Rec: one(7), Begin: 4, End: 7}}},
		{"Full, with what should be put", queue, [][]api.Todo{{put(7), put(8)}, nil}, []int{0, 0, 0, 0, 0, 0},
			[]api.Call{{Op: api.OpPut, Rec: one(7), End: 3}, {Op: api.OpPut, Rec: one(8), Code: api.Full, Begin: 4, End: 5}}},
		{"Empty", queue, [][]api.Todo{nil, {take, take}}, []int{1, 1, 1, 1},
			[]api.Call{{Proc: 1, Op: api.OpTake, Code: api.Empty, End: 1}, {Proc: 1, Op: api.OpTake, Code: api.Empty, Begin: 2, End: 3}}},
		{"neither has ended", queue, [][]api.Todo{{put(7)}, {take}}, []int{1, 0, 0, 0},
			[]api.Call{{Proc: 1, Op: api.OpTake, End: -1}, {Op: api.OpPut, Rec: one(7), Begin: 1, End: -1}}},
		{"one that read, but has not ended, tells nothing", queue, [][]api.Todo{{put(7)}, {take}}, []int{0, 0, 0, 0, 1, 1, 1},
			[]api.Call{{Op: api.OpPut, Rec: one(7), End: 3}, {Proc: 1, Op: api.OpTake, Begin: 4, End: -1}}},
		{"the second operation has begun", queue, [][]api.Todo{{put(7), put(8), put(9)}, {take}}, []int{0, 0, 0, 0, 0},
			[]api.Call{{Op: api.OpPut, Rec: one(7), End: 3}, {Op: api.OpPut, Rec: one(8), Begin: 4, End: -1}}},
		{"an attempt fails", attempt, [][]api.Todo{{write(7)}, {read, read}}, []int{1, 0, 0, 0, 0, 1, 1, 1, 1, 1},
			[]api.Call{{Proc: 1, Op: api.OpRead, Code: api.Retry, End: 6}, {Op: api.OpWrite, Rec: one(7), Begin: 1, End: 4}, {Proc: 1, Op: api.OpRead, Rec: one(7), Begin: 7, End: 9}}},
		{"the first record", attempt, [][]api.Todo{{write(7)}, {read}}, []int{1, 1, 1, 0},
			[]api.Call{{Proc: 1, Op: api.OpRead, Rec: one(5), End: 2}, {Op: api.OpWrite, Rec: one(7), Begin: 3, End: -1}}},
	} {
		got, e := weave.Run(c.o, c.procs, c.turns)
		if e != api.OK || !alike(got, c.want) {
			t.Errorf("%s: Run: %v %d, not %v", c.name, got, e, c.want)
		}
	}
}

// alike tells whether calls are the same: a nil record is as good as an empty one.
func alike(a, b []api.Call) bool {
	return slices.EqualFunc(a, b, func(x, y api.Call) bool {
		same := record.Same(x.Rec, y.Rec)
		x.Rec, y.Rec = nil, nil
		return same && reflect.DeepEqual(x, y)
	})
}

// proc is a process of a plain reckoning: the operation that is under way, and how many were begun.
type proc struct {
	under *object.Op
	begun int
	call  int
}

// reckoned is what Run must tell, reckoned step by step with the object's own operations, and how many steps were made.
func reckoned(o api.Object, procs [][]api.Todo, turns []int) ([]api.Call, int) {
	m, _ := mem.New(object.Size(o))
	m.Fill(0, object.Lay(o))
	all := make([]proc, len(procs))
	var calls []api.Call
	time := 0
	for _, p := range turns {
		if p < 0 || p >= len(procs) {
			continue
		}
		x := &all[p]
		if x.under == nil {
			if x.begun == len(procs[p]) {
				continue
			}
			todo := procs[p][x.begun]
			reader := 0
			if p > 0 {
				reader = p - 1
			}
			x.under, _ = object.Begin(o, 0, todo.Op, reader, todo.Rec)
			x.begun++
			x.call = len(calls)
			calls = append(calls, api.Call{Proc: p, Op: todo.Op, Rec: todo.Rec, Begin: time, End: -1})
		}
		x.under.Step(m)
		if x.under.Over() {
			rec, code := x.under.Answer()
			if p > 0 {
				calls[x.call].Rec = rec
			}
			calls[x.call].Code, calls[x.call].End = code, time
			x.under = nil
		}
		time++
	}
	return calls, time
}

// turned is turns of so many processes, some of which are none.
func turned(r *rand.Rand, procs, n int) []int {
	weights := make([]int, procs)
	for i := range weights {
		weights[i] = 1 + r.IntN(6)
	}
	var l []int
	for range n {
		p := r.IntN(procs+2) - 1
		if p < 0 || p == procs || r.IntN(weights[p]) == 0 {
			l = append(l, p)
		}
	}
	return l
}

// P24.3 to P24.5: Run and Finish tell what is reckoned; it is right, and linearizes.
func TestManyTurns(t *testing.T) {
	r := rand.New(rand.NewPCG(24, 5))
	for range 1500 {
		for _, o := range kinds(1+r.IntN(3), 1+r.IntN(api.MaxReaders), 1+r.IntN(3)) {
			procs := todos(o, r.IntN(10), r.IntN(6))
			turns := turned(r, len(procs), r.IntN(300))
			bound := weave.Bound(o, procs)
			got, e := weave.Run(o, procs, turns)
			want, _ := reckoned(o, procs, turns)
			if e != api.OK || !alike(got, want) {
				t.Fatalf("Run of %v, %v: %v, not %v", o, turns, got, want)
			}
			check(t, o, got)
			// Behind the turns comes process 0, so often as it may have a step, and so on.
			long := slices.Clone(turns)
			for p := range procs {
				long = append(long, slices.Repeat([]int{p}, bound)...)
			}
			got, e = weave.Finish(o, procs, turns)
			want, steps := reckoned(o, procs, long)
			if e != api.OK || !alike(got, want) {
				t.Fatalf("Finish of %v, %v: %v, not %v", o, turns, got, want)
			}
			check(t, o, got)
			if steps > bound || slices.ContainsFunc(got, func(c api.Call) bool { return c.End < 0 }) {
				t.Fatalf("%d steps of %d: %v", steps, bound, got)
			}
			all := 0
			for _, l := range procs {
				all += len(l)
			}
			if len(got) != all {
				t.Fatalf("%d operations of %d", len(got), all)
			}
		}
	}
}

// check holds a history against P24.5.
func check(t *testing.T, o api.Object, l []api.Call) {
	t.Helper()
	if !history.Right(l) {
		t.Fatalf("not right: %v", l)
	}
	if !slices.IsSortedFunc(l, func(a, b api.Call) int { return a.Begin - b.Begin }) {
		t.Fatalf("not by Begin: %v", l)
	}
	if o.Kind == api.Fifo && !(linfifo.Check(o.Slots, l) && linfifo.Follows(l)) || o.Kind != api.Fifo && !linreg.Check(o.Init, l) {
		t.Fatalf("does not linearize: %v %v", o, l)
	}
}

// P24.4: Bound is the sum of all operations' bounds.
func TestBound(t *testing.T) {
	for i, want := range []int{3*6 + 2*5, 3*8 + 4*6, 3*5 + 4*12, 3*4 + 4*12, 3*6 + 4*12, 3*5 + 2*5} {
		o := kinds(2, 2, 3)[i]
		if got := weave.Bound(o, todos(o, 3, 2)); got != want {
			t.Errorf("Bound of kind %d: %d, not %d", o.Kind, got, want)
		}
		if got := weave.Bound(o, todos(o, 0, 0)); got != 0 {
			t.Errorf("Bound of nothing: %d", got)
		}
	}
}

// P24.1: what is handed in stays as it is, and what is told is apart.
func TestApart(t *testing.T) {
	o := kinds(2, 1, 1)[2]
	procs, turns := todos(o, 2, 2), []int{0, 1, 0, 1, 0, 0, 0, 1, 1, 1}
	first, _ := weave.Finish(o, procs, turns)
	again, _ := weave.Finish(o, procs, turns)
	for i := range first {
		first[i].Rec = append(first[i].Rec[:0], 99, 98)
	}
	if !reflect.DeepEqual(procs, todos(o, 2, 2)) || !slices.Equal(o.Init, record.Stamp(2, 0)) || !slices.Equal(turns, []int{0, 1, 0, 1, 0, 0, 0, 1, 1, 1}) {
		t.Errorf("what was handed in is now %v %v %v", o, procs, turns)
	}
	if third, _ := weave.Finish(o, procs, turns); !alike(again, third) {
		t.Errorf("once more: %v, not %v", third, again)
	}
}

// P24.3, and the document's P4: wherever counters start, the same comes of the same.
func TestStarts(t *testing.T) {
	r := rand.New(rand.NewPCG(24, 4))
	for range 300 {
		l := kinds(2, 2, 2)
		for _, o := range []api.Object{l[2], l[3], l[5]} {
			procs := todos(o, 6, 4)
			turns := turned(r, len(procs), 200)
			want, _ := weave.Finish(o, procs, turns)
			late := o
			switch o.Kind {
			case api.Seq:
				late.Start = math.MaxUint32 - 1
			case api.Ring:
				late.Start = uint32(o.Slots)<<20 - 1 - r.Uint32N(4)
			case api.Fifo:
				late.Start = r.Uint32N(2 * uint32(o.Slots))
			}
			if got, e := weave.Finish(late, procs, turns); e != api.OK || !alike(got, want) {
				t.Fatalf("from %d: %v %d, not %v", late.Start, got, e, want)
			}
		}
	}
}

// P24.1: many turns, and many operations, are answered, too.
func TestLong(t *testing.T) {
	o := kinds(1, 1, 1)[5]
	procs := todos(o, 50000, 50000)
	var turns []int
	for range 50000 {
		turns = append(turns, 0, 0, 0, 0, 1, 1, 1, 1)
	}
	l, e := weave.Run(o, procs, turns)
	if e != api.OK || len(l) != 100000 || !linfifo.Check(o.Slots, l) {
		t.Errorf("%d calls, %d", len(l), e)
	}
}
