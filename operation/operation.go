// Package operation is what the operations of all kinds of objects have in common: see ../../shared/doc/14-four.md, P14.3 and P14.4.
package operation

import (
	"slices"

	"coxswain/api"
	"coxswain/mem"
)

// Part is what each operation has, whatever its kind: where its object stands, and how far it has come. It is a value: a copy of it is apart.
type Part struct {
	Reads  bool // else it writes
	Reader int  // whose operation it is
	Width  int  // how many words a record has
	Stage  int  // which step comes next, as the kind's chapter counts them, from 1 on
	Turn   int  // how often the step of this stage was made

	region   api.Region
	record   [api.MaxWidth]uint32
	attempts int // those that are left
	steps    int
	underway bool
	code     int
}

// Within tells whether a number is from low to high.
func Within(n, low, high int) bool { return low <= n && n <= high }

// Register tells whether an object is of a kind of registers, and has what each of these must have.
func Register(o api.Object, kind int) bool {
	return o.Kind == kind && Within(o.Width, 1, api.MaxWidth) && len(o.Init) == o.Width && Within(len(o.Readers), 1, api.MaxReaders)
}

// Ops is what the writer, and what a reader, of a kind does.
func Ops(kind int) (int, int, bool) {
	switch kind {
	case api.Four, api.Chen, api.Seq, api.Ring, api.Cab:
		return api.OpWrite, api.OpRead, true
	case api.Fifo:
		return api.OpPut, api.OpTake, true
	}
	return 0, 0, false
}

// Begin is the beginning of an operation on an object of so many words (0: it is not right).
func Begin(o api.Object, size, at, op, reader int, rec []uint32) (Part, api.Errno) {
	if size == 0 || at < 0 {
		return Part{}, api.ErrArg
	}
	writes, reads, _ := Ops(o.Kind)
	if op != writes && op != reads {
		return Part{}, api.ErrCall
	}
	// Whoever writes is as one of a single reader, with a record to hand in.
	readers, words := 1, o.Width
	if op == reads {
		readers, words = len(o.Readers), 0
	}
	if !Within(reader, 0, readers-1) {
		return Part{}, api.ErrRange
	}
	if len(rec) != words {
		return Part{}, api.ErrForm
	}
	p := Part{
		Reads:    op == reads,
		Reader:   reader,
		Width:    o.Width,
		Stage:    1,
		region:   api.Region{At: at, Len: size},
		attempts: o.Cap,
		underway: true,
	}
	copy(p.record[:], rec)
	return p, api.OK
}

// May tells whether there is a next step in a memory.
func (p *Part) May(m *mem.Mem) bool {
	return p.underway && mem.Inside(m.Len(), p.region)
}

// Read makes a step: it reads the object's word i. (Behind May all words lie Inside, so no step tells an error.)
func (p *Part) Read(m *mem.Mem, i int) uint32 {
	p.steps++
	w, _ := m.Read(p.region.At + i)
	return w
}

// Write makes a step: it writes the object's word i.
func (p *Part) Write(m *mem.Mem, i int, w uint32) {
	p.steps++
	m.Write(p.region.At+i, w)
}

// Swap makes a step: it swaps the object's word i.
func (p *Part) Swap(m *mem.Mem, i int, was, now uint32) {
	p.steps++
	m.Cas(p.region.At+i, was, now)
}

// Next goes on to the next stage.
func (p *Part) Next() { p.Stage, p.Turn = p.Stage+1, 0 }

// Repeat goes on to the next stage, if the step of this one was made so many times, and tells whether it did.
func (p *Part) Repeat(times int) bool {
	p.Turn++
	if p.Turn < times {
		return false
	}
	p.Next()
	return true
}

// Record makes a step: it reads, or writes, the next word of the record that stands from the object's word i on. It goes on to the next stage behind the last one, and tells whether it did.
func (p *Part) Record(m *mem.Mem, i int) bool {
	if p.Reads {
		p.record[p.Turn] = p.Read(m, i+p.Turn)
	} else {
		p.Write(m, i+p.Turn, p.record[p.Turn])
	}
	return p.Repeat(p.Width)
}

// Again goes back to the first stage, if an attempt is left behind this one, that failed; it tells whether it did.
func (p *Part) Again() bool {
	p.attempts--
	if p.attempts < 1 {
		return false
	}
	p.Stage, p.Turn = 1, 0
	return true
}

// End ends the operation.
func (p *Part) End(code int) { p.underway, p.code = false, code }

// Over tells whether the operation has ended. None is over.
func (p *Part) Over() bool { return p == nil || !p.underway }

// Answer is the record that was read, and how the operation ended.
func (p *Part) Answer() ([]uint32, int) {
	if p == nil || p.underway {
		return nil, api.Good
	}
	if !p.Reads || p.code != api.Good {
		return nil, p.code
	}
	return slices.Clone(p.record[:p.Width]), p.code
}

// Steps is how many steps were made.
func (p *Part) Steps() int {
	if p == nil {
		return 0
	}
	return p.steps
}
