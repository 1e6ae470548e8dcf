package every_test

import (
	"math"
	"reflect"
	"slices"
	"testing"

	"coxswain/api"
	"coxswain/every"
	"coxswain/linfifo"
	"coxswain/linreg"
	"coxswain/object"
	"coxswain/record"
	"coxswain/weave"
)

// kinds is an object of each kind, of this width, of so many readers where there may be several, and of so many attempts.
func kinds(width, readers, attempts int) []api.Object {
	l := []api.Object{
		{Kind: api.Four}, {Kind: api.Chen}, {Kind: api.Seq, Cap: attempts}, {Kind: api.Ring, Slots: 2, Cap: attempts}, {Kind: api.Cab, Slots: readers + 2, Cap: attempts}, {Kind: api.Fifo, Slots: 1},
	}
	for i := range l {
		l[i].Width, l[i].Readers = width, make([]int, readers)
		if l[i].Kind == api.Four || l[i].Kind == api.Fifo {
			l[i].Readers = make([]int, 1)
		}
		if l[i].Kind != api.Fifo {
			l[i].Init = record.Stamp(width, 0)
		}
	}
	return l
}

// todos is what the processes of an object are to do: so many writes of stamps, and so many reads of each reader.
func todos(o api.Object, writes, reads int) [][]api.Todo {
	w, r, _ := object.Ops(o.Kind)
	procs := make([][]api.Todo, 1+len(o.Readers))
	for k := range writes {
		procs[0] = append(procs[0], api.Todo{Op: w, Rec: record.Stamp(o.Width, uint32(k+1))})
	}
	for i := range o.Readers {
		procs[1+i] = slices.Repeat([]api.Todo{{Op: r}}, reads)
	}
	return procs
}

// P25.2: Linear, by the kind alone.
func TestLinear(t *testing.T) {
	write := api.Call{Op: api.OpWrite, Rec: []uint32{7}, Begin: 0, End: 3}
	read := func(w uint32) api.Call {
		return api.Call{Proc: 1, Op: api.OpRead, Rec: []uint32{w}, Begin: 4, End: 6}
	}
	put := api.Call{Op: api.OpPut, Rec: []uint32{7}, Begin: 0, End: 3}
	more := api.Call{Op: api.OpPut, Rec: []uint32{8}, Begin: 4, End: 6}
	for kind := -1; kind < 9; kind++ {
		register := api.Object{Kind: kind, Init: []uint32{5}, Slots: 1}
		queue := kind == api.Fifo
		for _, c := range []struct {
			name string
			l    []api.Call
			want bool
		}{
			{"none", nil, true},
			{"what was written", []api.Call{write, read(7)}, !queue},
			{"the first record", []api.Call{read(5)}, !queue},
			{"the first record behind the write", []api.Call{write, read(5)}, false},
			{"another record", []api.Call{read(0)}, false},
			{"a put", []api.Call{put}, queue},
			{"two puts into one slot", []api.Call{put, more}, false},
			{"not right", []api.Call{put, put}, false},
		} {
			if every.Linear(register, c.l) != c.want {
				t.Errorf("kind %d: %s: Linear is not %v", kind, c.name, c.want)
			}
		}
	}
	if !every.Linear(api.Object{Kind: api.Fifo, Slots: 2}, []api.Call{put, more}) {
		t.Error("two puts into two slots")
	}
	if every.Linear(api.Object{Kind: api.Fifo}, []api.Call{put}) {
		t.Error("a put into no slots")
	}
}

// P25.1: errors, of all three.
func TestErrors(t *testing.T) {
	seq, fifo := kinds(1, 2, 1)[2], kinds(1, 1, 1)[5]
	wrong := seq
	wrong.Cap = 0
	with := func(procs [][]api.Todo, todo api.Todo) [][]api.Todo {
		procs[1] = append(procs[1], todo)
		return procs
	}
	for _, c := range []struct {
		name  string
		o     api.Object
		procs [][]api.Todo
		want  api.Errno
	}{
		{"not shaped", wrong, todos(seq, 1, 1), api.ErrArg},
		{"nothing", api.Object{}, nil, api.ErrArg},
		{"a process too few", seq, todos(seq, 1, 1)[:2], api.ErrArg},
		{"a wrong operation", seq, with(todos(seq, 1, 1), api.Todo{Op: api.OpTake}), api.ErrCall},
		{"a wrong record", seq, with(todos(seq, 1, 1), api.Todo{Op: api.OpRead, Rec: []uint32{1}}), api.ErrForm},
		{"17 operations of one", fifo, todos(fifo, 17, 0), api.ErrRoom},
		{"17 operations of all", seq, todos(seq, 3, 7), api.ErrRoom},
		{"very many", seq, todos(seq, 1000, 1000), api.ErrRoom},
		{"17 operations, one of them wrong", seq, with(todos(seq, 2, 7), api.Todo{Op: api.OpTake}), api.ErrCall},
		{"16 operations of one", fifo, todos(fifo, 16, 0), api.OK},
		{"16 operations of all", seq, todos(seq, 2, 7), api.OK},
	} {
		for _, most := range []int{math.MinInt, 0, 1, 3} {
			want := min(max(most, 0), 3)
			if c.want != api.OK {
				want = 0
			} else if c.o.Kind == api.Fifo {
				want = min(want, 1)
			}
			n, linear, e := every.Count(c.o, c.procs, most)
			if n != want || linear != (c.want == api.OK) || e != c.want {
				t.Errorf("%s: Count of %d: %d %v %d", c.name, most, n, linear, e)
			}
			l, e := every.Schedules(c.o, c.procs, most)
			if len(l) != want || e != c.want {
				t.Errorf("%s: Schedules of %d: %v %d", c.name, most, l, e)
			}
			n, e = every.Worst(c.o, c.procs, most)
			if (n > 0) != (want > 0) || e != c.want {
				t.Errorf("%s: Worst of %d: %d %d", c.name, most, n, e)
			}
		}
	}
}

// left is the processes that have something left behind turns, as weave tells it: not all of their operations have ended.
func left(t *testing.T, o api.Object, procs [][]api.Todo, turns []int) []int {
	t.Helper()
	calls, e := weave.Run(o, procs, turns)
	if e != api.OK {
		t.Fatalf("Run: %d", e)
	}
	var l []int
	for proc, todos := range procs {
		ended := 0
		for _, c := range calls {
			if c.Proc == proc && c.End >= 0 {
				ended++
			}
		}
		if ended < len(todos) {
			l = append(l, proc)
		}
	}
	return l
}

// all is all schedules that begin with some turns, in order.
func all(t *testing.T, o api.Object, procs [][]api.Todo, turns []int) [][]int {
	t.Helper()
	may := left(t, o, procs, turns)
	if len(may) == 0 {
		return [][]int{slices.Clone(turns)}
	}
	var l [][]int
	for _, proc := range may {
		l = append(l, all(t, o, procs, append(slices.Clone(turns), proc))...)
	}
	return l
}

// longest is the greatest number of steps that an operation makes in a schedule, told by when it begins and ends.
func longest(t *testing.T, o api.Object, procs [][]api.Todo, turns []int) int {
	t.Helper()
	calls, _ := weave.Run(o, procs, turns)
	most := 0
	for _, c := range calls {
		n := 0
		for at := c.Begin; at <= c.End; at++ {
			if turns[at] == c.Proc {
				n++
			}
		}
		most = max(most, n)
	}
	return most
}

// P25.2: Schedules, Count and Worst are what is told of all that weave tells.
func TestSchedules(t *testing.T) {
	for _, c := range []struct{ readers, attempts, writes, reads int }{{1, 1, 0, 0}, {1, 1, 1, 0}, {1, 2, 0, 2}, {1, 1, 1, 1}, {1, 2, 1, 1}, {2, 1, 0, 1}} {
		for _, o := range kinds(1, c.readers, c.attempts) {
			procs := todos(o, c.writes, c.reads)
			want := all(t, o, procs, nil)
			if !slices.IsSortedFunc(want, slices.Compare[[]int]) {
				t.Fatalf("kind %d: not in order", o.Kind)
			}
			for _, most := range []int{math.MinInt, -1, 0, 1, 2, 3, len(want) / 2, len(want) - 1, len(want), len(want) + 1, math.MaxInt} {
				first := want[:min(max(most, 0), len(want))]
				got, e := every.Schedules(o, procs, most)
				if e != api.OK || !slices.EqualFunc(got, first, slices.Equal[[]int]) {
					t.Errorf("kind %d, %v: the first %d schedules: %v %d, not %v", o.Kind, c, most, got, e, first)
				}
				n, linear, e := every.Count(o, procs, most)
				if n != len(first) || !linear || e != api.OK {
					t.Errorf("kind %d, %v: Count of %d: %d %v %d, not %d", o.Kind, c, most, n, linear, e, len(first))
				}
				steps := 0
				for _, turns := range first {
					steps = max(steps, longest(t, o, procs, turns))
				}
				worst, e := every.Worst(o, procs, most)
				if worst != steps || e != api.OK {
					t.Errorf("kind %d, %v: Worst of %d: %d %d, not %d", o.Kind, c, most, worst, e, steps)
				}
				// P25.3: Worst is at most the greatest Bound.
				w, r, _ := object.Ops(o.Kind)
				if worst > max(object.Bound(o, w), object.Bound(o, r)) {
					t.Errorf("kind %d, %v: Worst of %d: %d", o.Kind, c, most, worst)
				}
			}
		}
	}
}

// P25.2: nothing to do is one schedule of no turns.
func TestNothing(t *testing.T) {
	for _, o := range kinds(1, 2, 1) {
		procs := todos(o, 0, 0)
		l, e := every.Schedules(o, procs, 5)
		if len(l) != 1 || len(l[0]) != 0 || e != api.OK {
			t.Errorf("kind %d: Schedules: %v %d", o.Kind, l, e)
		}
		n, linear, e := every.Count(o, procs, 5)
		if n != 1 || !linear || e != api.OK {
			t.Errorf("kind %d: Count: %d %v %d", o.Kind, n, linear, e)
		}
		if n, e := every.Worst(o, procs, 5); n != 0 || e != api.OK {
			t.Errorf("kind %d: Worst: %d %d", o.Kind, n, e)
		}
	}
}

// ways is how many ways there are to lay rows of these lengths into one another.
func ways(lens ...int) int {
	n, sum := 1, 0
	for _, l := range lens {
		for i := range l {
			sum++
			n = n * sum / (i + 1)
		}
	}
	return n
}

// P25.3: operations of just so many steps come in so many schedules as there are ways to lay them into one another.
func TestWays(t *testing.T) {
	for _, c := range []struct{ kind, width, readers, writes, reads, want int }{
		{api.Four, 1, 1, 1, 1, 126},
		{api.Four, 1, 1, 2, 1, ways(10, 4)},
		{api.Four, 1, 1, 1, 3, ways(5, 12)},
		{api.Four, 1, 1, 2, 2, ways(10, 8)},
		{api.Four, 3, 1, 1, 1, ways(7, 6)},
		{api.Chen, 1, 1, 1, 1, ways(5, 5)},
		{api.Chen, 1, 1, 2, 1, ways(10, 5)},
		{api.Chen, 2, 1, 1, 1, ways(6, 6)},
		{api.Chen, 1, 2, 0, 1, ways(5, 5)},
		{api.Seq, 1, 1, 3, 0, 1},
		{api.Seq, 2, 3, 0, 1, ways(4, 4, 4)},
		{api.Ring, 1, 2, 0, 2, ways(6, 6)},
	} {
		o := kinds(c.width, c.readers, 2)[c.kind-1]
		procs := todos(o, c.writes, c.reads)
		n, linear, e := every.Count(o, procs, 1000000)
		if n != c.want || !linear || e != api.OK {
			t.Errorf("%v: Count: %d %v %d", c, n, linear, e)
		}
	}
}

// P25.3: two writes and two reads of each kind, and several readers: all linearizes.
func TestAllLinear(t *testing.T) {
	for _, c := range []struct{ readers, writes, reads, least int }{{1, 2, 2, 500}, {1, 3, 1, 100}, {2, 1, 1, 1000}} {
		for _, o := range kinds(1, c.readers, 1) {
			n, linear, e := every.Count(o, todos(o, c.writes, c.reads), 60000)
			if n < min(c.least, 60000) && o.Kind != api.Four && o.Kind != api.Fifo || !linear || e != api.OK {
				t.Errorf("kind %d, %v: Count: %d %v %d", o.Kind, c, n, linear, e)
			}
		}
	}
}

// P25.2: the history of a schedule is Linear, and one in which a read tells what it did not find is not.
func TestHistories(t *testing.T) {
	for _, o := range kinds(1, 1, 2) {
		procs := todos(o, 1, 1)
		l, _ := every.Schedules(o, procs, math.MaxInt)
		for _, turns := range l {
			calls, e := weave.Run(o, procs, turns)
			if e != api.OK || !every.Linear(o, calls) {
				t.Fatalf("kind %d, %v: %v", o.Kind, turns, calls)
			}
			if o.Kind == api.Fifo && !linfifo.Check(o.Slots, calls) || o.Kind != api.Fifo && !linreg.Check(o.Init, calls) {
				t.Fatalf("kind %d, %v: %v", o.Kind, turns, calls)
			}
			for i := range calls {
				if calls[i].Proc == 1 && calls[i].Code == api.Good {
					calls[i].Rec = []uint32{77}
					if every.Linear(o, calls) {
						t.Fatalf("kind %d, %v: %v", o.Kind, turns, calls)
					}
				}
			}
		}
	}
}

// P25.2: the first schedule has process 0 ahead of all; attempts come in later ones.
func TestWorst(t *testing.T) {
	o := kinds(1, 1, 2)[2]
	for _, c := range []struct{ writes, reads, most, want int }{
		{1, 1, 1, 4},               // the write; behind it a read of one attempt
		{0, 1, 9, 3},               // a read that nobody disturbs
		{1, 1, math.MaxInt, 6},     // an attempt that a write spoils, and the next one
		{2, 1, math.MaxInt, 6},     // both attempts spoilt
		{0, 0, 1, 0}, {1, 1, 0, 0}, // nothing
	} {
		if got, e := every.Worst(o, todos(o, c.writes, c.reads), c.most); got != c.want || e != api.OK {
			t.Errorf("%v: Worst: %d %d", c, got, e)
		}
	}
}

// P25.1: what is handed in stays as it is, and what is told is apart: also behind its end.
func TestApart(t *testing.T) {
	o := kinds(2, 1, 1)[0]
	procs := todos(o, 1, 1)
	l, _ := every.Schedules(o, procs, 40)
	want, _ := every.Schedules(o, procs, 40)
	for i := range l {
		_ = append(l[i], 9)
		for k := range l {
			if k != i && !slices.Equal(l[k], want[k]) {
				t.Fatalf("schedule %d is now %v", k, l[k])
			}
		}
		l[i] = append(l[i][:0], 5, 6, 7)
		want[i] = l[i]
	}
	every.Count(o, procs, 40)
	every.Worst(o, procs, 40)
	if !reflect.DeepEqual(procs, todos(o, 1, 1)) || !slices.Equal(o.Init, record.Stamp(2, 0)) {
		t.Errorf("what was handed in is now %v %v", o, procs)
	}
}

// P25.1: of the greatest operations, too, the first schedules are told.
func TestLong(t *testing.T) {
	o := kinds(api.MaxWidth, api.MaxReaders, api.MaxCap)[2]
	procs := todos(o, 4, 3)
	l, e := every.Schedules(o, procs, 1000)
	if len(l) != 1000 || e != api.OK {
		t.Errorf("%d schedules, %d", len(l), e)
	}
	if n, linear, e := every.Count(o, procs, 1000); n != 1000 || !linear || e != api.OK {
		t.Errorf("Count: %d %v %d", n, linear, e)
	}
}
