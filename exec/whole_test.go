package exec_test

import (
	"slices"
	"strings"
	"testing"

	"coxswain/api"
	"coxswain/exec"
	"coxswain/trace"
)

// ran is what came in a run that is forced, as text, but for the ticks that were nobody's.
func ran(t *testing.T, text, script string) (string, api.Outcome) {
	t.Helper()
	o := exec.Run(img(t, sys(t, text)), acts(t, script), true)
	if o.E != api.OK {
		t.Fatalf("%q: %d", text, o.E)
	}
	s, ok := trace.Print(slices.DeleteFunc(slices.Clone(o.Events), func(e event) bool { return e.Kind == api.EvIdle }))
	if !ok {
		t.Fatal(o.Events)
	}
	return s, o
}

// comes fails if something else came in a run than these lines.
func comes(t *testing.T, text, script string, want ...string) api.Outcome {
	t.Helper()
	s, o := ran(t, text, script)
	if s != strings.Join(want, "\n")+"\n" {
		t.Errorf("%q, %q: came\n%snot\n%s", text, script, s, strings.Join(want, "\n"))
	}
	return o
}

// calls is what is told of all calls that ended: how they ended, and of which record.
func calls(o api.Outcome) (codes []int, recs []uint32) {
	for _, c := range o.Calls {
		if c.End >= 0 {
			codes, recs = append(codes, c.Code), append(recs, c.Rec...)
		}
	}
	return codes, recs
}

// The first three examples of the whole: no bytes; a task of two steps; one with a deadline that it can't meet.
func TestShort(t *testing.T) {
	if o := exec.Run([]byte{}, acts(t, "run 9\n"), true); o.E != api.ErrEnd || len(o.Events) != 0 {
		t.Error(o)
	}
	comes(t, short, "run 9\n", "0 release 0 0 0", "0 step 0 0 0", "1 step 0 0 1", "1 done 0 0 2")
	if o := exec.Run(img(t, sys(t, tooLate)), acts(t, "run 9\n"), false); o.E != api.ErrLate || len(o.Events) != 0 {
		t.Error(o)
	}
	comes(t, tooLate, "run 9\n", "0 release 0 0 0", "0 step 0 0 0", "1 miss 0 0 0", "1 step 0 0 1", "1 done 0 0 2")
}

// The fourth one, and the ninth one: who goes ahead has the first ticks; what is asked for too early is refused.
func TestTwoAndFive(t *testing.T) {
	comes(t, short+strings.Replace(short, "periodic 0", "periodic 1", 1), "run 9\n",
		"0 release 0 0 0", "0 release 1 0 0", "0 step 1 0 0", "1 step 1 0 1", "1 done 1 0 2", "2 step 0 0 0", "3 step 0 0 1", "3 done 0 0 4")
	comes(t, "task sporadic 1 5 0 5 1\ndone\nend\n", "ask 0\nrun 3\nask 0\nrun 2\nask 0\nrun 4\n",
		"0 release 0 0 0", "0 step 0 0 0", "0 done 0 0 1", "3 refuse 0 0 0", "5 release 0 1 0", "5 step 0 1 0", "5 done 0 1 1")
}

// reader and writer are the tasks 0 and 1: 1 goes ahead, and writes 9 from its own word.
const (
	reader = "task periodic 0 90 0 90 1\nread r1 o0 0\ndone\nend\n"
	writer = "task sporadic 1 40 0 40 1\nset r1 9\nstore r1 r0 0\nwrite r2 o0 0\ndone\nend\n"
	twice  = "task sporadic 1 40 0 40 1\nset r1 9\nstore r1 r0 0\nwrite r2 o0 0\nwrite r2 o0 0\ndone\nend\n"
	queue  = "task periodic 0 90 0 90 1\nset r1 7\nstore r1 r0 0\nput r1 o0 0\nput r2 o0 0\ndone\nend\ntask sporadic 0 40 0 40 2\ntake r1 o0 0\ntake r2 o0 1\ndone\nend\n"
)

// The fifth one, and the sixth one: an attempt of seq fails, the next one tells the new record; a reader ahead of the writer is not admitted.
func TestSeq(t *testing.T) {
	text := reader + writer + "object seq 1 0 2 0 1 readers 0 init 5\n"
	codes, recs := calls(comes(t, text, "run 2\nask 1\nrun 20\n",
		"0 release 0 0 0", "0 call 0 0 1", "0 step 0 0 0", "1 step 0 0 0",
		"2 release 1 0 0", "2 step 1 0 0", "3 step 1 0 1", "4 call 1 0 2", "4 step 1 0 2", "5 step 1 0 2", "6 step 1 0 2", "7 back 1 0 0", "7 step 1 0 2", "8 step 1 0 3", "8 done 1 0 7",
		"9 step 0 0 0", "10 step 0 0 0", "11 step 0 0 0", "12 back 0 0 0", "12 step 0 0 0", "13 step 0 0 1", "13 done 0 0 14"))
	if !slices.Equal(codes, []int{api.Good, api.Good}) || !slices.Equal(recs, []uint32{9, 9}) {
		t.Error(codes, recs)
	}
	if o := exec.Run(img(t, sys(t, text)), nil, false); o.E != api.OK {
		t.Error(o)
	}
	ahead := strings.Replace(text, "periodic 0", "periodic 2", 1)
	if o := exec.Run(img(t, sys(t, ahead)), nil, false); o.E != api.ErrRetry || o.Where != (api.Spot{At: -1}) {
		t.Error(o)
	}
}

// The seventh one: of a ring of 2 slots an attempt fails by two writes in between, of one of 4 none does.
func TestRing(t *testing.T) {
	for slots, want := range map[string]struct {
		code int
		rec  []uint32
	}{"2": {api.Retry, nil}, "4": {api.Good, []uint32{5}}} {
		_, o := ran(t, reader+twice+"object ring 1 "+slots+" 1 0 1 readers 0 init 5\n", "run 1\nask 1\nrun 30\n")
		if len(o.Calls) != 3 || o.Calls[0].Code != want.code || !slices.Equal(o.Calls[0].Rec, want.rec) {
			t.Error(slots, o.Calls)
		}
	}
}

// The eighth one: a queue of 1 slot.
func TestQueue(t *testing.T) {
	_, o := ran(t, queue+"object fifo 1 1 0 0 0 readers 1 init\n", "run 20\nask 1\nrun 20\n")
	codes, recs := calls(o)
	if !slices.Equal(codes, []int{api.Good, api.Full, api.Good, api.Empty}) || !slices.Equal(recs, []uint32{7, 7, 7}) {
		t.Error(codes, recs)
	}
}

// The tenth one, P4: counters that start right ahead of where they wrap.
func TestWraps(t *testing.T) {
	for _, c := range []struct{ text, from, to string }{
		{reader + writer + "object seq 1 0 2 START 1 readers 0 init 5\n", "0", "4294967294"},
		{reader + twice + "object ring 1 3 1 START 1 readers 0 init 5\n", "0", "3145727"},
		{queue + "object fifo 1 1 0 START 0 readers 1 init\n", "0", "1"},
	} {
		script := "run 2\nask 1\nrun 100\nask 1\nrun 100\nask 1\nrun 50\n"
		s, o := ran(t, strings.Replace(c.text, "START", c.from, 1), script)
		again, other := ran(t, strings.Replace(c.text, "START", c.to, 1), script)
		if s != again || !slices.EqualFunc(o.Calls, other.Calls, same) || len(o.Calls) < 5 {
			t.Errorf("%q: came\n%snot\n%s", c.text, again, s)
		}
	}
}
