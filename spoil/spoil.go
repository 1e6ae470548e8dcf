// Package spoil is what layers 37 and 38 have in common: what a job takes, and how often others spoil its reads, with all that does not hang on the ticks reckoned once. (Whoever looks for a response asks of thousands of numbers of ticks.) See ../../shared/doc/37-interfere.md.
package spoil

import (
	"coxswain/api"
	"coxswain/bound"
	"coxswain/demand"
	"coxswain/system"
	"coxswain/task"
	"coxswain/word"
)

// Reads is the reads that a task makes of an object, and who writes it. The zero one is that of a task that does not read the object.
type Reads struct {
	kind, slots int
	fail        int  // how many steps an attempt has at most that fails
	ahead       bool // the writer goes ahead of the task
	writes      int  // how often a job of the writer writes, if it goes ahead
	period      int  // the writer's, if it goes ahead
}

// Of is the reads that the task i makes of the object k.
func Of(s api.System, i, k int) Reads {
	if role, _ := system.Role(s, i, k); role != api.OpRead || demand.Reads(s, i, k) == 0 {
		return Reads{}
	}
	o := s.Objects[k]
	x := Reads{kind: o.Kind, slots: o.Slots, fail: bound.Fail(o, api.OpRead)}
	if task.Ahead(s.Tasks, o.Writer, i) {
		x.ahead, x.writes, x.period = true, demand.Writes(s, o.Writer, k), s.Tasks[o.Writer].Period
	}
	return x
}

// Hopeless tells whether a write may be under way all the while.
func (x Reads) Hopeless() bool { return x.kind == api.Seq && !x.ahead }

// Writes is how many writes may come in so many ticks.
func (x Reads) Writes(ticks int) int { return word.Mul(x.writes, word.Ceil(ticks, x.period)) }

// Fails is how many attempts may fail in so many ticks.
func (x Reads) Fails(ticks int) int {
	switch x.kind {
	case api.Seq, api.Cab:
		return x.Writes(ticks)
	case api.Ring:
		// Held against 2 first: of a number far below 0, 1 less goes round.
		return x.Writes(ticks) / (max(x.slots, 2) - 1)
	}
	return 0
}

// Job is what a job of a task takes, if no attempt fails, and all its reads. The zero one is that of a task that has no jobs.
type Job struct {
	clean int
	reads []Reads
}

// JobOf is a job of the task i; the zero one, if it is not known what it takes.
func JobOf(s api.System, i int) Job {
	clean, e := demand.Clean(s, i)
	if e != api.OK {
		return Job{}
	}
	j := Job{clean: clean}
	for k := range s.Objects {
		j.reads = append(j.reads, Of(s, i, k))
	}
	return j
}

// Steps is what the job takes, of so many ticks.
func (j Job) Steps(ticks int) int {
	n := j.clean
	for _, x := range j.reads {
		n = word.Add(n, word.Mul(x.Fails(ticks), x.fail))
	}
	return n
}
