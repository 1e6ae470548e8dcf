package admit_test

import (
	"math/rand/v2"
	"slices"
	"testing"

	"coxswain/admit"
	"coxswain/api"
	"coxswain/frame"
	"coxswain/isa"
	"coxswain/kernel"
	"coxswain/layout"
	"coxswain/mem"
	"coxswain/object"
)

// run is a system that runs: its memory, its kernel, and of each task where its job stands, and the operation that is under way.
type run struct {
	s       api.System
	m       *mem.Mem
	l       api.Layout
	k       *kernel.Kernel
	frames  []api.Frame
	under   []*object.Op
	retries int
}

// start is a run ahead of its first tick.
func start(s api.System) *run {
	m, l, _ := layout.Lay(s)
	k, _ := kernel.New(s.Tasks)
	return &run{s: s, m: m, l: l, k: k, frames: make([]api.Frame, len(s.Tasks)), under: make([]*object.Op, len(s.Tasks))}
}

// tick is what comes in a tick in which these tasks are asked for.
func (x *run) tick(asks []int) []api.Event {
	came := x.k.Open(asks)
	for _, e := range came {
		if e.Kind == api.EvRelease {
			x.frames[e.Task] = frame.Start(x.s.Tasks[e.Task].Code)
		}
	}
	ended := false
	if i, ok := x.k.Pick(); ok {
		ended = x.step(i)
	}
	return append(came, x.k.Close(0, ended)...)
}

// step makes a step of a task's job, and tells whether the job has ended.
func (x *run) step(i int) bool {
	p := x.s.Tasks[i].Code
	at := p[x.frames[i].PC]
	k, op, calls := isa.Calls(at)
	if !calls {
		f, became := frame.Step(x.frames[i], p, x.m, x.l.Own[i])
		x.frames[i] = f
		return became == frame.Ended
	}
	if x.under[i] == nil {
		x.under[i] = x.begin(i, k, op, int(at.N))
	}
	x.under[i].Step(x.m)
	if x.under[i].Over() {
		_, code := x.under[i].Answer()
		if code == api.Retry {
			x.retries++
		}
		x.frames[i], _ = frame.Pass(x.frames[i], p, uint32(code))
		x.under[i] = nil
	}
	return false
}

// begin begins the operation of a call, on words of the task's own from a number on.
func (x *run) begin(i, k, op, from int) *object.Op {
	o := x.s.Objects[k]
	reader, reads := object.Reader(o, i)
	var rec []uint32
	if !reads {
		for n := range o.Width {
			w, _ := x.m.Read(x.l.Own[i].At + from + n)
			rec = append(rec, w)
		}
	}
	under, _ := object.Begin(o, x.l.Objects[k].At, op, reader, rec)
	return under
}

// seen is what is seen of a run: how often somebody was late, or a read was spoilt, and each task's longest response.
type seen struct {
	bad   int
	worst []int
}

// runs is a run of so many ticks, in which sporadic tasks are asked for one time in so many (or as often as can be, of 1).
func runs(rnd *rand.Rand, s api.System, ticks, rarely int) seen {
	x := start(s)
	saw := seen{worst: make([]int, len(s.Tasks))}
	for range ticks {
		var asks []int
		for i, t := range s.Tasks {
			if t.Kind == api.Sporadic && rnd.IntN(rarely) == 0 {
				asks = append(asks, i)
			}
		}
		for _, e := range x.tick(asks) {
			switch e.Kind {
			case api.EvMiss, api.EvOver:
				saw.bad++
			case api.EvDone:
				saw.worst[e.Task] = max(saw.worst[e.Task], e.B)
			}
		}
	}
	saw.bad += x.retries
	return saw
}

// P3: in runs of systems that are admitted nobody is late, no job takes longer than its response, and no read ends with Retry. (Of those that are not admitted some go wrong.)
func TestRuns(t *testing.T) {
	rnd := rand.New(rand.NewPCG(3, 40))
	admitted, wrong, reached := 0, 0, 0
	for range 600 {
		s := crowd(rnd)
		v := admit.Check(s)
		if v.E == api.OK {
			admitted++
		}
		for _, rarely := range []int{1, 7, 60} {
			saw := runs(rnd, s, 1200, rarely)
			if v.E != api.OK {
				wrong += min(saw.bad, 1)
				continue
			}
			for i, worst := range saw.worst {
				if saw.bad > 0 || worst > v.R[i] {
					t.Fatalf("%v, %v: %v", s, v, saw)
				}
			}
			if slices.Equal(saw.worst, v.R) {
				reached++
			}
		}
	}
	if admitted < 100 || wrong < 100 || reached < 10 {
		t.Error(admitted, wrong, reached)
	}
}
