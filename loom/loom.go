// Package loom is an object, and processes whose operations on it go on step by step: what weave and every have in common. See ../../shared/doc/24-weave.md, P24.3.
package loom

import (
	"coxswain/api"
	"coxswain/mem"
	"coxswain/object"
	"coxswain/record"
)

// Loom is where an object, and its processes, have come to.
type Loom struct {
	o     api.Object
	m     *mem.Mem
	rows  []row
	calls []api.Call
	time  int
}

// row is a process: what it has to do behind the operation that is under way, if one is, and where the call of that one stands.
type row struct {
	left  []api.Todo
	under *object.Op
	call  int
}

// New is an object at the beginning, and its processes, of which nothing is wrong (24: Fault).
func New(o api.Object, procs [][]api.Todo) *Loom {
	m, _ := mem.New(object.Size(o))
	m.Fill(0, object.Lay(o))
	x := &Loom{o: o, m: m}
	for _, todos := range procs {
		x.rows = append(x.rows, row{left: todos})
	}
	return x
}

// Procs is how many processes there are.
func (x *Loom) Procs() int { return len(x.rows) }

// May tells whether a process has a step left.
func (x *Loom) May(proc int) bool {
	return proc >= 0 && proc < len(x.rows) && (x.rows[proc].under != nil || len(x.rows[proc].left) > 0)
}

// Turn makes a process' next step, and tells whether it has one.
func (x *Loom) Turn(proc int) bool {
	if !x.May(proc) {
		return false
	}
	if x.rows[proc].under == nil {
		x.begin(proc)
	}
	x.rows[proc].under.Step(x.m)
	if x.rows[proc].under.Over() {
		x.end(proc)
	}
	x.time++
	return true
}

// begin begins a process' next operation.
func (x *Loom) begin(proc int) {
	r := &x.rows[proc]
	todo := r.left[0]
	// Process 0 writes; the readers stand behind it, by their places.
	r.under, _ = object.Begin(x.o, 0, todo.Op, max(proc-1, 0), todo.Rec)
	r.left = r.left[1:]
	r.call = len(x.calls)
	x.calls = append(x.calls, api.Call{Proc: proc, Op: todo.Op, Rec: record.Copy(todo.Rec), Begin: x.time, End: -1})
}

// end ends the operation that is under way, with the step that was made now.
func (x *Loom) end(proc int) {
	r := &x.rows[proc]
	c := &x.calls[r.call]
	rec, code := r.under.Answer()
	if proc > 0 {
		c.Rec = rec
	}
	c.Code, c.End = code, x.time
	r.under = nil
}

// Calls is all operations that had a first step, by their beginnings. They are the loom's own, up to its next turn.
func (x *Loom) Calls() []api.Call { return x.calls }

// Clone is a loom that stands where this one does, apart. (Both have the calls' records, which no turn changes.)
func (x *Loom) Clone() *Loom {
	c := *x
	c.m = x.m.Clone()
	c.rows = append([]row(nil), x.rows...)
	for i := range c.rows {
		c.rows[i].under = x.rows[i].under.Clone()
	}
	c.calls = append([]api.Call(nil), x.calls...)
	return &c
}
