package spoil_test

import (
	"math"
	"testing"

	"coxswain/api"
	"coxswain/interfere"
	"coxswain/spoil"
)

// pair is a system of task 0, that writes an object of the kind twice each 10 ticks, and task 1, that reads it, and goes behind.
func pair(kind int) api.System {
	o := api.Object{Kind: kind, Width: 1, Cap: 2, Init: []uint32{5}, Writer: 0, Readers: []int{1}}
	switch kind {
	case api.Ring:
		o.Slots = 3
	case api.Cab:
		o.Slots = 3
	case api.Four:
		o.Cap = 0
	}
	write, read, done := api.Instr{Op: api.Write}, api.Instr{Op: api.Read}, api.Instr{Op: api.Done}
	return api.System{Tasks: []api.Task{
		{Prio: 2, Period: 10, Code: []api.Instr{write, write, done}},
		{Prio: 1, Period: 90, Code: []api.Instr{read, done}},
	}, Objects: []api.Object{o}}
}

// What was reckoned once tells of each number of ticks the same as what is reckoned anew.
func TestOnce(t *testing.T) {
	for _, kind := range []int{api.Four, api.Seq, api.Ring, api.Cab} {
		s := pair(kind)
		for i := -1; i < 3; i++ {
			job := spoil.JobOf(s, i)
			for k := -1; k < 2; k++ {
				reads := spoil.Of(s, i, k)
				for _, r := range []int{math.MinInt, 0, 1, 10, 11, 35, math.MaxInt, 1} {
					if reads.Writes(r) != interfere.Writes(s, i, k, r) || reads.Fails(r) != interfere.Fails(s, i, k, r) || job.Steps(r) != interfere.Job(s, i, r) {
						t.Errorf("kind %d, task %d, object %d, %d ticks", kind, i, k, r)
					}
				}
				if reads.Hopeless() {
					t.Errorf("kind %d, task %d, object %d", kind, i, k)
				}
			}
		}
	}
}

// What was reckoned does not hang on what becomes of the system.
func TestKept(t *testing.T) {
	s := pair(api.Seq)
	job, reads := spoil.JobOf(s, 1), spoil.Of(s, 1, 0)
	s.Tasks[0].Period, s.Tasks[1].Code[0], s.Objects[0].Kind = 1, api.Instr{}, 0
	if job.Steps(11) != 4+4*3 || reads.Writes(11) != 4 || reads.Fails(11) != 4 {
		t.Error(job.Steps(11), reads.Writes(11), reads.Fails(11))
	}
}

// The zero ones are those of a task that does not read, and of one without jobs.
func TestZero(t *testing.T) {
	var reads spoil.Reads
	var job spoil.Job
	if reads.Hopeless() || reads.Writes(99) != 0 || reads.Fails(99) != 0 || job.Steps(99) != 0 {
		t.Error(reads, job)
	}
}
