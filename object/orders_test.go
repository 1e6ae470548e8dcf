package object_test

import (
	"math/rand/v2"
	"slices"
	"testing"

	"coxswain/api"
	"coxswain/mem"
	"coxswain/object"
	"coxswain/record"
)

// P2: however steps come in between one another, an object behaves as if each operation came at one time.

// done is an operation that has ended, with the times of its first and last steps.
type done struct {
	proc, begin, end, code int
	rec                    []uint32
}

// run is the writer (process 0) and the readers of an object, each with operations that are left, and perhaps one that is under way.
type run struct {
	o      api.Object
	m      *mem.Mem
	time   int
	left   []int // by process
	writes int
	under  []*object.Op
	begun  []int
	ended  []done
}

// start is a run of so many operations of each process.
func start(t *testing.T, o api.Object, writes, reads int) *run {
	t.Helper()
	m, _ := mem.New(object.Size(o))
	if !object.Right(o) || m.Fill(0, object.Lay(o)) != api.OK {
		t.Fatalf("%v is not right", o)
	}
	n := 1 + len(o.Readers)
	left := slices.Repeat([]int{reads}, n)
	left[0] = writes
	return &run{o: o, m: m, left: left, under: make([]*object.Op, n), begun: make([]int, n)}
}

// clone is a run that stands where this one does.
func (x *run) clone() *run {
	c := *x
	c.m, c.left, c.begun, c.ended = x.m.Clone(), slices.Clone(x.left), slices.Clone(x.begun), slices.Clone(x.ended)
	c.under = nil
	for _, op := range x.under {
		c.under = append(c.under, op.Clone())
	}
	return &c
}

// may tells whether a process has a step.
func (x *run) may(proc int) bool { return x.left[proc] > 0 || x.under[proc] != nil }

// step makes a process' next step.
func (x *run) step(t *testing.T, proc int) {
	if x.under[proc] == nil {
		writes, op, _ := object.Ops(x.o.Kind)
		reader, rec := proc-1, []uint32(nil)
		if proc == 0 {
			x.writes++
			op, reader, rec = writes, 0, record.Stamp(x.o.Width, uint32(x.writes))
		}
		next, e := object.Begin(x.o, 0, op, reader, rec)
		if e != api.OK {
			t.Fatalf("Begin: %d", e)
		}
		x.left[proc]--
		x.under[proc], x.begun[proc] = next, x.time
	}
	op := x.under[proc]
	op.Step(x.m)
	if op.Over() {
		rec, code := op.Answer()
		x.ended = append(x.ended, done{proc, x.begun[proc], x.time, code, rec})
		x.under[proc] = nil
	}
	x.time++
}

// check tells whether what has ended may be, of a register, or a queue.
func (x *run) check() bool {
	if x.o.Kind == api.Fifo {
		return x.queue()
	}
	return x.register()
}

// register tells whether each read found one record, that was no older than the last write ahead of it, and than what was read ahead of it, and no newer than the last write that had begun.
func (x *run) register() bool {
	for i, a := range x.ended {
		if a.proc == 0 || a.code == api.Retry {
			continue
		}
		found, ok := record.Unstamp(a.rec)
		if !ok {
			return false
		}
		least, most := 0, 0
		for _, b := range x.ended {
			if b.proc == 0 && b.end < a.begin {
				least++
			}
			if b.proc == 0 && b.begin < a.end {
				most++
			}
		}
		if int(found) < least || int(found) > most {
			return false
		}
		for _, b := range x.ended[:i] {
			if ahead, _ := record.Unstamp(b.rec); b.proc > 0 && b.code == api.Good && b.end < a.begin && ahead > found {
				return false
			}
		}
	}
	return true
}

// queue tells whether what was taken is what was put, in order, and whether it was full, and empty, when that was told.
func (x *run) queue() bool {
	var puts, takes []done
	var kept []uint32
	put := uint32(0)
	for _, a := range x.ended {
		if a.proc == 0 {
			put++
			if a.code == api.Good {
				kept = append(kept, put)
			}
			puts = append(puts, a)
		} else {
			takes = append(takes, a)
		}
	}
	good := 0
	for _, a := range takes {
		if a.code == api.Good {
			if found, ok := record.Unstamp(a.rec); !ok || good >= len(kept) || found != kept[good] {
				return false
			}
			good++
		} else if counted(puts, func(b done) bool { return b.end < a.begin }) > good {
			return false
		}
	}
	good = 0
	for _, a := range puts {
		if a.code == api.Good {
			if good-counted(takes, func(b done) bool { return b.begin < a.end }) >= x.o.Slots {
				return false
			}
			good++
		} else if good-counted(takes, func(b done) bool { return b.end < a.begin }) < x.o.Slots {
			return false
		}
	}
	return true
}

// counted is how many of some operations ended with Good and are as asked.
func counted(l []done, asked func(b done) bool) int {
	n := 0
	for _, b := range l {
		if b.code == api.Good && asked(b) {
			n++
		}
	}
	return n
}

// orders goes through all orders of steps from where a run stands, and counts them.
func orders(t *testing.T, x *run) int {
	n := 0
	for proc := range x.left {
		if !x.may(proc) {
			continue
		}
		c := x.clone()
		c.step(t, proc)
		n += orders(t, c)
	}
	if n > 0 {
		return n
	}
	if !x.check() {
		t.Fatalf("%v: %v", x.o, x.ended)
	}
	return 1
}

// stamped is a right object whose first record is the stamp of 0.
func stamped(kind, width, readers, attempts int) api.Object {
	o := made(kind, width, readers, attempts)
	if kind != api.Fifo {
		o.Init = record.Stamp(width, 0)
	}
	return o
}

// All orders of two writes and two reads of one word; of operations of just so many steps there are as many as ways to lay their steps into one another.
func TestAllOrders(t *testing.T) {
	for kind, want := range map[int]int{api.Four: 43758, api.Chen: 184756, api.Seq: 0, api.Ring: 0, api.Cab: 0, api.Fifo: 0} {
		got := orders(t, start(t, stamped(kind, 1, 1, 2), 2, 2))
		if want > 0 && got != want || got < 100 {
			t.Errorf("kind %d: %d orders, not %d", kind, got, want)
		}
	}
}

// Orders of many operations, of several readers, made by a rule.
func TestManyOrders(t *testing.T) {
	r := rand.New(rand.NewPCG(2, 2))
	for n := range 6000 {
		o := stamped(1+n%6, 1+r.IntN(3), 1+r.IntN(api.MaxReaders), 1+r.IntN(3))
		if o.Kind == api.Ring {
			o.Slots = 2 + r.IntN(4)
			o.Start = uint32(o.Slots)<<20 - 1 - r.Uint32N(9)
		}
		if o.Kind == api.Fifo {
			o.Slots = 1 + r.IntN(4)
			o.Start = r.Uint32N(2 * uint32(o.Slots))
		}
		x := start(t, o, 12, 8)
		weights := make([]int, len(x.left))
		for i := range weights {
			weights[i] = 1 + r.IntN(6)
		}
		for slices.ContainsFunc(x.left, func(n int) bool { return n > 0 }) || slices.ContainsFunc(x.under, func(op *object.Op) bool { return op != nil }) {
			proc := r.IntN(len(x.left))
			if r.IntN(weights[proc]) == 0 && x.may(proc) {
				x.step(t, proc)
			}
		}
		if !x.check() {
			t.Fatalf("%v: %v", o, x.ended)
		}
	}
}
