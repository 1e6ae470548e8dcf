package bound_test

import (
	"math"
	"math/rand/v2"
	"slices"
	"testing"

	"coxswain/api"
	"coxswain/bound"
	"coxswain/mem"
	"coxswain/object"
	"coxswain/system"
	"coxswain/word"
)

// shaped is objects of all kinds: of all widths, of one reader, or as many as may be, of several numbers of attempts.
func shaped() []api.Object {
	var l []api.Object
	for width := 1; width <= api.MaxWidth; width++ {
		first := make([]uint32, width)
		l = append(l, api.Object{Kind: api.Four, Width: width, Init: first, Readers: []int{1}})
		l = append(l, api.Object{Kind: api.Fifo, Width: width, Slots: 3, Start: 5, Readers: []int{1}})
		for _, readers := range [][]int{{1}, {3, 1, 2, 4}} {
			l = append(l, api.Object{Kind: api.Chen, Width: width, Init: first, Readers: readers})
			for _, attempts := range []int{1, 2, 3, 16} {
				l = append(l, api.Object{Kind: api.Seq, Width: width, Cap: attempts, Start: 8, Init: first, Readers: readers})
				l = append(l, api.Object{Kind: api.Ring, Width: width, Slots: 2 + width, Cap: attempts, Start: 7, Init: first, Readers: readers})
				l = append(l, api.Object{Kind: api.Cab, Width: width, Slots: 6, Cap: attempts, Init: first, Readers: readers})
			}
		}
	}
	return l
}

// steps is what P35.2 says: how many steps an attempt has that fails, and the operation, if none does.
func steps(o api.Object, op int) (fail, clean int) {
	w, n := o.Width, len(o.Readers)
	type of struct{ kind, op int }
	switch (of{o.Kind, op}) {
	case of{api.Seq, api.OpRead}, of{api.Ring, api.OpRead}:
		return w + 2, w + 2
	case of{api.Cab, api.OpRead}:
		return 3, w + 4
	case of{api.Four, api.OpRead}, of{api.Seq, api.OpWrite}, of{api.Fifo, api.OpPut}, of{api.Fifo, api.OpTake}:
		return 0, w + 3
	case of{api.Four, api.OpWrite}, of{api.Chen, api.OpRead}:
		return 0, w + 4
	case of{api.Chen, api.OpWrite}:
		return 0, w + 2*n + 2
	case of{api.Ring, api.OpWrite}:
		return 0, w + 2
	case of{api.Cab, api.OpWrite}:
		return 0, w + n + 2
	}
	return 0, 0
}

// The numbers that are handed in as operations, and as how many attempts fail.
var (
	ops   = []int{-1, 0, api.OpRead, api.OpWrite, api.OpPut, api.OpTake, 5, math.MinInt, math.MaxInt}
	fails = []int{0, 1, 2, 3, 4, 14, 15, 16, 17, 99, math.MaxInt, -1, math.MinInt}
)

// P35.2: all kinds, and all operations, also those that a kind has not.
func TestSteps(t *testing.T) {
	for _, o := range shaped() {
		if !object.Shaped(o) {
			t.Fatal(o)
		}
		for _, op := range ops {
			fail, clean := steps(o, op)
			if bound.Fail(o, op) != fail || bound.Clean(o, op) != clean {
				t.Errorf("%v, %d: %d, %d, not %d, %d", o, op, bound.Fail(o, op), bound.Clean(o, op), fail, clean)
			}
			for _, n := range fails {
				want := clean
				for range min(n, o.Cap-1) {
					want += fail
				}
				if got := bound.After(o, op, n); got != want {
					t.Errorf("%v, %d, %d fails: %d, not %d", o, op, n, got, want)
				}
			}
		}
	}
}

// P35.2: the chapter's example.
func TestExample(t *testing.T) {
	o := api.Object{Kind: api.Seq, Width: 2, Cap: 3, Init: []uint32{0, 0}, Readers: []int{1}}
	got := []int{bound.Clean(o, api.OpRead), bound.Fail(o, api.OpRead), bound.After(o, api.OpRead, 1), bound.After(o, api.OpRead, 9)}
	if !slices.Equal(got, []int{4, 4, 8, 12}) {
		t.Error(got)
	}
}

// misshapen is objects that are not Shaped.
func misshapen() []api.Object {
	l := []api.Object{{}}
	for _, o := range shaped() {
		for _, change := range []func(o *api.Object){
			func(o *api.Object) { o.Kind = 0 },
			func(o *api.Object) { o.Kind = 7 },
			func(o *api.Object) { o.Kind = math.MinInt },
			func(o *api.Object) { o.Width = 0 },
			func(o *api.Object) { o.Width = math.MaxInt },
			func(o *api.Object) { o.Slots = math.MinInt },
			func(o *api.Object) { o.Cap = 17 },
			func(o *api.Object) { o.Cap = math.MinInt },
			func(o *api.Object) { o.Start = math.MaxUint32 },
			func(o *api.Object) { o.Init = append(o.Init, 1) },
			func(o *api.Object) { o.Readers = nil },
		} {
			x := o
			x.Init = slices.Clone(o.Init)
			change(&x)
			l = append(l, x)
		}
	}
	return l
}

// P35.2: all are 0 of an object that is not Shaped.
func TestMisshapen(t *testing.T) {
	for _, o := range misshapen() {
		if object.Shaped(o) {
			t.Fatal(o)
		}
		for _, op := range ops {
			for _, n := range fails {
				if bound.Clean(o, op) != 0 || bound.Fail(o, op) != 0 || bound.After(o, op, n) != 0 {
					t.Errorf("%v, %d, %d: %d, %d, %d", o, op, n, bound.Clean(o, op), bound.Fail(o, op), bound.After(o, op, n))
				}
			}
		}
	}
}

// P35.4: when all attempts fail that may, there are no more steps than Bound says; with fewer of them there are no more.
func TestBound(t *testing.T) {
	for _, o := range shaped() {
		for _, op := range ops {
			if got := bound.After(o, op, o.Cap); got != object.Bound(o, op) {
				t.Errorf("%v, %d: %d, not %d", o, op, got, object.Bound(o, op))
			}
			for n := range 20 {
				if bound.After(o, op, n) > bound.After(o, op, n+1) {
					t.Errorf("%v, %d: fewer behind %d fails", o, op, n+1)
				}
			}
		}
	}
}

// attempts follows a read by what it sees as the object's word 0: at which step its attempt is (from 0 on), what it saw first, and how many attempts failed.
type attempts struct {
	o            api.Object
	step, failed int
	first        uint32
}

// last is the step at which an attempt looks at word 0 once more.
func (x *attempts) last() int {
	if x.o.Kind == api.Cab {
		return 2
	}
	return x.o.Width + 1
}

// spoils tells whether the attempt fails, if its next step sees this as word 0.
func (x *attempts) spoils(w uint32) bool {
	switch {
	case x.step == 0:
		return x.o.Kind == api.Seq && w%2 == 1
	case x.step != x.last():
		return false
	case x.o.Kind == api.Seq:
		return w != x.first
	case x.o.Kind == api.Cab:
		return w%uint32(x.o.Slots) != x.first%uint32(x.o.Slots)
	}
	return int(word.Gap(x.first, w, uint32(x.o.Slots)*api.Wrap)) >= x.o.Slots-1
}

// see goes on by one step, that sees this as word 0.
func (x *attempts) see(w uint32) {
	if x.spoils(w) {
		x.failed, x.step = x.failed+1, 0
		return
	}
	if x.step == 0 {
		x.first = w
	}
	x.step++
}

// read makes a read of an object, of which word 0 is ahead of each step what change says, and tells how many attempts failed, how many steps there were, and how it ended.
func read(o api.Object, change func(x *attempts) uint32) (failed, made, code int) {
	m, _ := mem.New(object.Size(o))
	m.Fill(0, object.Lay(o))
	op, _ := object.Begin(o, 0, api.OpRead, 0, nil)
	x := &attempts{o: o}
	for !op.Over() {
		w := change(x)
		m.Write(0, w)
		x.see(w)
		op.Step(m)
	}
	_, code = op.Answer()
	return x.failed, op.Steps(), code
}

// retries is the objects whose reads have attempts.
func retries() []api.Object {
	return slices.DeleteFunc(shaped(), func(o api.Object) bool { return o.Cap == 0 })
}

// P35.4: reads of which just so many attempts fail, each as late as it can, make just as many steps as After says. (But a read of cab that ends with Retry: it makes one step behind its attempts, and looks at no record.)
func TestFailed(t *testing.T) {
	for _, o := range retries() {
		for n := range o.Cap + 1 {
			count := uint32(4)
			failed, made, code := read(o, func(x *attempts) uint32 {
				if x.step == x.last() && x.failed < n {
					count += uint32(2*o.Slots + 2)
				}
				return count
			})
			ended, want := api.Good, bound.After(o, api.OpRead, n)
			if n == o.Cap {
				ended = api.Retry
				if o.Kind == api.Cab {
					want -= o.Width
				}
			}
			if failed != n || code != ended || made != want {
				t.Errorf("%v: %d of %d failed, %d steps, not %d, code %d", o, failed, n, made, want, code)
			}
		}
	}
}

// P35.4: whatever others do to the memory.
func TestDisturbed(t *testing.T) {
	rnd := rand.New(rand.NewPCG(35, 4))
	for _, o := range retries() {
		for range 50 {
			often, w := rnd.IntN(o.Width+3), uint32(0)
			failed, made, _ := read(o, func(*attempts) uint32 {
				if rnd.IntN(often+1) == 0 {
					w = rnd.Uint32()
				}
				return w
			})
			if made > bound.After(o, api.OpRead, failed) {
				t.Errorf("%v: %d steps, %d failed", o, made, failed)
			}
		}
	}
}

// calls is a system of a task that calls objects, as these instructions say, and of one that does nothing.
func calls(objects []api.Object, code ...api.Instr) api.System {
	return api.System{Tasks: []api.Task{{Code: code}, {Code: []api.Instr{{Op: api.Done}}}}, Objects: objects}
}

// P35.3: calls that are right, of objects that have such an operation, and all others.
func TestWeights(t *testing.T) {
	first := []uint32{1, 2}
	objects := []api.Object{
		{Kind: api.Seq, Width: 2, Cap: 3, Init: first, Readers: []int{1}},
		{Kind: api.Cab, Width: 2, Slots: 4, Cap: 2, Init: first, Readers: []int{1, 2}},
		{Kind: api.Fifo, Width: 2, Slots: 1, Readers: []int{1}},
		{Kind: api.Seq, Width: 2, Init: first, Readers: []int{1}}, // not Shaped: it has no attempts
		{Kind: 9, Width: 2},
	}
	for _, c := range []struct {
		name  string
		instr api.Instr
		steps [3]int // with no fails, with one, with as many as may be
	}{
		{"read of seq", api.Instr{Op: api.Read, B: 0}, [3]int{4, 8, 12}},
		{"write of seq", api.Instr{Op: api.Write, A: 7, B: 0, N: 63}, [3]int{5, 5, 5}},
		{"read of cab", api.Instr{Op: api.Read, B: 1}, [3]int{6, 9, 9}},
		{"write of cab", api.Instr{Op: api.Write, B: 1}, [3]int{6, 6, 6}},
		{"put", api.Instr{Op: api.Put, B: 2}, [3]int{5, 5, 5}},
		{"take", api.Instr{Op: api.Take, B: 2}, [3]int{5, 5, 5}},
		{"put into seq", api.Instr{Op: api.Put, B: 0}, [3]int{1, 1, 1}},
		{"take from cab", api.Instr{Op: api.Take, B: 1}, [3]int{1, 1, 1}},
		{"read of fifo", api.Instr{Op: api.Read, B: 2}, [3]int{1, 1, 1}},
		{"write of fifo", api.Instr{Op: api.Write, B: 2}, [3]int{1, 1, 1}},
		{"read of what is not Shaped", api.Instr{Op: api.Read, B: 3}, [3]int{1, 1, 1}},
		{"write of what is not Shaped", api.Instr{Op: api.Write, B: 3}, [3]int{1, 1, 1}},
		{"read of no kind", api.Instr{Op: api.Read, B: 4}, [3]int{1, 1, 1}},
		{"no object", api.Instr{Op: api.Read, B: 5}, [3]int{1, 1, 1}},
		{"no object, at the end", api.Instr{Op: api.Read, B: 7}, [3]int{1, 1, 1}},
		{"not right: object", api.Instr{Op: api.Read, B: -1}, [3]int{1, 1, 1}},
		{"not right: register", api.Instr{Op: api.Read, A: 8}, [3]int{1, 1, 1}},
		{"not right: place", api.Instr{Op: api.Read, N: 64}, [3]int{1, 1, 1}},
		{"not right: C", api.Instr{Op: api.Read, C: 1}, [3]int{1, 1, 1}},
		{"no call", api.Instr{Op: api.Back, C: 255}, [3]int{1, 1, 1}},
		{"no kind", api.Instr{Op: 22}, [3]int{1, 1, 1}},
		{"done", api.Instr{Op: api.Done}, [3]int{1, 1, 1}},
	} {
		s := calls(objects, api.Instr{}, c.instr, c.instr)
		for _, n := range []struct{ fails, at int }{{math.MinInt, 0}, {-1, 0}, {0, 0}, {1, 1}, {api.MaxCap, 2}, {math.MaxInt, 2}} {
			want := c.steps[n.at]
			if got := bound.Weights(s, 0, n.fails); !slices.Equal(got, []int{1, want, want}) {
				t.Errorf("%s, %d fails: %v, not 1 and %d twice", c.name, n.fails, got, want)
			}
		}
	}
	if got := bound.Weights(calls(nil, api.Instr{Op: api.Read}), 0, 1); !slices.Equal(got, []int{1}) {
		t.Error("no objects:", got)
	}
}

// P35.3: none, if there is no such task, or it has no instructions; each task has its own.
func TestWeightsOfNobody(t *testing.T) {
	s := calls(nil, api.Instr{}, api.Instr{}, api.Instr{})
	s.Tasks = append(s.Tasks, api.Task{})
	for i, want := range map[int]int{0: 3, 1: 1, 2: 0, 3: 0, -1: 0, math.MinInt: 0, math.MaxInt: 0} {
		if got := bound.Weights(s, i, 1); len(got) != want {
			t.Errorf("task %d: %v", i, got)
		}
	}
	if got := bound.Weights(api.System{}, 0, 0); len(got) != 0 {
		t.Error(got)
	}
}

// P35.1: what is handed in is not changed, what is told shares nothing.
func TestApart(t *testing.T) {
	s := calls([]api.Object{shaped()[3]}, api.Instr{Op: api.Read}, api.Instr{Op: api.Done})
	was := system.Copy(s)
	want := bound.Weights(s, 0, 1)
	bound.Weights(s, 0, 1)[0] = 99
	if !slices.Equal(bound.Weights(s, 0, 1), want) || !system.Same(s, was) {
		t.Error(s, was)
	}
}

// P4: wherever counters start, an operation has as many steps.
func TestStarts(t *testing.T) {
	for _, o := range retries() {
		if o.Kind == api.Cab {
			continue
		}
		x := o
		x.Start = 0
		for _, n := range fails {
			if bound.After(o, api.OpRead, n) != bound.After(x, api.OpRead, n) || bound.Clean(o, api.OpWrite) != bound.Clean(x, api.OpWrite) {
				t.Errorf("%v, and from 0 on", o)
			}
		}
	}
}
