package loom_test

import (
	"math"
	"reflect"
	"testing"

	"coxswain/api"
	"coxswain/loom"
)

// queue is a queue of one slot, into which 7 and 8 are put, and of which one takes twice.
func queue() *loom.Loom {
	o := api.Object{Kind: api.Fifo, Width: 1, Slots: 1, Readers: []int{1}}
	return loom.New(o, [][]api.Todo{{{Op: api.OpPut, Rec: []uint32{7}}, {Op: api.OpPut, Rec: []uint32{8}}}, {{Op: api.OpTake}, {Op: api.OpTake}}})
}

// turn makes turns, and tells how many were steps.
func turn(x *loom.Loom, procs ...int) int {
	n := 0
	for _, proc := range procs {
		if x.Turn(proc) {
			n++
		}
	}
	return n
}

// P24.3: no process has a step that is none, or that has nothing left.
func TestTurns(t *testing.T) {
	x := queue()
	if x.Procs() != 2 {
		t.Errorf("%d processes", x.Procs())
	}
	for _, proc := range []int{math.MinInt, -1, 2, math.MaxInt} {
		if x.May(proc) || x.Turn(proc) {
			t.Errorf("process %d has a step", proc)
		}
	}
	if len(x.Calls()) != 0 {
		t.Errorf("calls ahead of all steps: %v", x.Calls())
	}
	// The first put has four steps; the second one, that ends with Full, two.
	if n := turn(x, 0, 0, 0, 0, 0, 0, 0, 0); n != 6 || x.May(0) || !x.May(1) {
		t.Errorf("%d steps", n)
	}
	// The take has four; the second one, that ends with Empty, two.
	if n := turn(x, 1, 1, 1, 1, 1, 1, 1); n != 6 || x.May(1) {
		t.Errorf("%d steps", n)
	}
	want := []api.Call{
		{Op: api.OpPut, Rec: []uint32{7}, Begin: 0, End: 3},
		{Op: api.OpPut, Rec: []uint32{8}, Code: api.Full, Begin: 4, End: 5},
		{Proc: 1, Op: api.OpTake, Rec: []uint32{7}, Begin: 6, End: 9},
		{Proc: 1, Op: api.OpTake, Code: api.Empty, Begin: 10, End: 11},
	}
	if got := x.Calls(); !reflect.DeepEqual(got, want) {
		t.Errorf("%v, not %v", got, want)
	}
}

// A clone goes on as the other one would have, and apart.
func TestClone(t *testing.T) {
	x := queue()
	turn(x, 0, 0, 0, 1)
	c := x.Clone()
	turn(c, 0, 1, 1, 1)
	if a, b := x.Calls(), c.Calls(); len(a) != 2 || a[0].End != -1 || a[1].End != -1 || b[0].End != 4 || b[1].End != 7 || b[1].Rec[0] != 7 {
		t.Errorf("%v and %v", a, b)
	}
	// Here the take comes to the queue ahead of the put's last step.
	turn(x, 1, 0)
	if a := x.Calls(); a[0].End != 5 || a[1].End != 4 || a[1].Code != api.Empty {
		t.Errorf("%v", a)
	}
	if b := c.Calls(); b[1].Code != api.Good {
		t.Errorf("%v", b)
	}
}
