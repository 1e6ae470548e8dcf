package desk

import (
	"iter"
	"slices"
	"strconv"
	"strings"

	"coxswain/api"
	"coxswain/audit"
	"coxswain/history"
	"coxswain/observe"
	"coxswain/size"
	"coxswain/trace"
)

// tell is a line of a word and numbers, any number of them.
func tell(word string, numbers ...int) string {
	var b strings.Builder
	b.WriteString(word)
	for _, n := range numbers {
		b.WriteByte(' ')
		b.WriteString(strconv.Itoa(n))
	}
	return b.String()
}

// each goes through the lines of so many things, by their places, but for those that have none.
func each(things int, line func(place int) (string, bool)) iter.Seq[string] {
	return func(yield func(string) bool) {
		for place := range things {
			if s, ok := line(place); ok && !yield(s) {
				return
			}
		}
	}
}

// Answer is the answer to a question.
func Answer(sys api.System, x api.Outcome, acts []api.Act, ask string) []string {
	return slices.Collect(answer(sys, x, acts, ask))
}

// answer goes through the lines that answer a question.
func answer(sys api.System, x api.Outcome, acts []api.Act, ask string) iter.Seq[string] {
	switch ask {
	case "admit":
		return admitted(x.Verdict)
	case "events":
		return each(len(x.Events), func(i int) (string, bool) { return trace.Line(x.Events[i]) })
	case "calls":
		return each(len(x.Calls), func(i int) (string, bool) { return history.Line(x.Calls[i]) })
	case "jobs":
		return each(len(x.Jobs), func(i int) (string, bool) { return job(x.Jobs[i]), true })
	case "check":
		return each(1, func(int) (string, bool) { return tell("check", audit.Check(sys, acts, x)), true })
	case "sizes":
		return each(len(sys.Objects), func(k int) (string, bool) { return needs(sys, k, x.Verdict.R), true })
	case "worst":
		return each(len(sys.Tasks), func(i int) (string, bool) { return worst(x.Events, i), true })
	}
	return each(1, func(int) (string, bool) { return "? " + ask, true })
}

// admitted goes through the lines of a verdict.
func admitted(v api.Verdict) iter.Seq[string] {
	return func(yield func(string) bool) {
		if !yield(tell("verdict", int(v.E), v.Task, v.Object)) {
			return
		}
		for i, r := range v.R {
			if !yield(tell("response", i, r)) {
				return
			}
		}
	}
}

// job is a job's line.
func job(j api.Job) string {
	line := tell("job", j.Task, j.No, j.Release, j.Deadline, j.Start, j.End, j.Steps)
	if j.Missed {
		line += " late"
	}
	return line
}

// needs is the line of what an object needs.
func needs(sys api.System, k int, responses []int) string {
	return tell("size", k, size.Slots(sys, k, responses), size.Caps(sys, k, responses))
}

// worst is the line of a task's longest response time.
func worst(l []api.Event, i int) string {
	longest, found := observe.Worst(l, i)
	if !found {
		return tell("worst", i) + " -"
	}
	return tell("worst", i, longest)
}
