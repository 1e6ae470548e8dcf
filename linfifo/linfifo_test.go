package linfifo_test

import (
	"math"
	"math/rand/v2"
	"reflect"
	"slices"
	"testing"

	"coxswain/api"
	"coxswain/history"
	"coxswain/linfifo"
	"coxswain/record"
)

// put is a put of a word by process 0.
func put(w uint32, begin, end int) api.Call {
	return api.Call{Op: api.OpPut, Rec: []uint32{w}, Begin: begin, End: end}
}

// full is a put that ended with Full.
func full(w uint32, begin, end int) api.Call { return coded(put(w, begin, end), api.Full) }

// take is a take of a word by process 1.
func take(w uint32, begin, end int) api.Call {
	return api.Call{Proc: 1, Op: api.OpTake, Rec: []uint32{w}, Begin: begin, End: end}
}

// empty is a take that ended with Empty.
func empty(begin, end int) api.Call {
	return api.Call{Proc: 1, Op: api.OpTake, Code: api.Empty, Begin: begin, End: end}
}

// coded is a call that ended with a code.
func coded(c api.Call, code int) api.Call {
	c.Code = code
	return c
}

// by is a call of a process.
func by(proc int, c api.Call) api.Call {
	c.Proc = proc
	return c
}

// P23.2: Fits.
func TestFits(t *testing.T) {
	for _, c := range []struct {
		name string
		l    []api.Call
		want bool
	}{
		{"none", nil, true},
		{"a put", []api.Call{put(1, 0, 3)}, true},
		{"a take", []api.Call{take(1, 0, 3)}, true},
		{"puts and takes", []api.Call{put(1, 0, 3), take(1, 0, 3), full(1, 4, 5), empty(4, 5)}, true},
		{"a write", []api.Call{{Op: api.OpWrite, End: 3}}, false},
		{"a read behind others", []api.Call{put(1, 0, 3), {Proc: 1, Op: api.OpRead, End: 3}}, false},
		{"puts of two processes", []api.Call{put(1, 0, 3), by(2, put(1, 4, 5))}, false},
		{"takes of two processes", []api.Call{take(1, 0, 3), by(2, empty(4, 5))}, false},
		{"puts and takes of one process", []api.Call{by(4, put(1, 0, 3)), by(4, take(1, 4, 5))}, true},
		{"not right: two at once", []api.Call{put(1, 0, 3), put(2, 3, 5)}, false},
		{"not right: a code", []api.Call{coded(put(1, 0, 3), 4)}, false},
		{"a put that ended with Retry", []api.Call{coded(put(1, 0, 3), api.Retry)}, false},
		{"a put that ended with Empty", []api.Call{coded(put(1, 0, 3), api.Empty)}, false},
		{"a take that ended with Retry", []api.Call{coded(take(1, 0, 3), api.Retry)}, false},
		{"a take that ended with Full", []api.Call{coded(take(1, 0, 3), api.Full)}, false},
		{"a put that has not ended, with Empty", []api.Call{coded(put(1, 0, -1), api.Empty)}, true},
		{"a take that has not ended, with Retry", []api.Call{coded(take(1, 0, -1), api.Retry)}, true},
		{"unlike objects", []api.Call{put(1, 0, 3), {Proc: 1, Object: 3, Op: api.OpTake, Rec: []uint32{1}, Begin: 2, End: 4}}, true},
	} {
		if linfifo.Fits(c.l) != c.want {
			t.Errorf("%s: Fits is not %v", c.name, c.want)
		}
		if !c.want && (linfifo.Check(2, c.l) || len(linfifo.Lengths(2, c.l)) != 0 || linfifo.Follows(c.l)) {
			t.Errorf("%s: it does not fit, but linearizes, or follows", c.name)
		}
	}
}

// P23.2, P23.3: what linearizes, and how long the queue may be then. (No length: it does not linearize.)
func TestLengths(t *testing.T) {
	for _, c := range []struct {
		name  string
		slots int
		l     []api.Call
		want  []int
	}{
		{"none", 2, nil, []int{0}},
		{"none, of no slots", 0, nil, []int{0}},
		{"none, of less", math.MinInt, nil, []int{0}},
		{"a put", 1, []api.Call{put(7, 0, 3)}, []int{1}},
		{"a put, of no slots", 0, []api.Call{put(7, 0, 3)}, nil},
		{"a put, of less", -1, []api.Call{put(7, 0, 3)}, nil},
		{"a put, of very many", math.MaxInt, []api.Call{put(7, 0, 3)}, []int{1}},
		{"Full at first", 1, []api.Call{full(7, 0, 3)}, nil},
		{"Full of no slots", 0, []api.Call{full(7, 0, 3)}, []int{0}},
		{"Full of less", -1, []api.Call{full(7, 0, 3)}, nil},
		{"Empty at first", 1, []api.Call{empty(0, 3)}, []int{0}},
		{"Empty, of less", -1, []api.Call{empty(0, 3)}, []int{0}},
		{"put, Empty", 2, []api.Call{put(7, 0, 3), empty(4, 5)}, nil},
		{"put, and Empty at once", 2, []api.Call{put(7, 0, 3), empty(3, 5)}, []int{1}},
		{"Empty, put", 2, []api.Call{put(7, 3, 5), empty(1, 2)}, []int{1}},
		{"put, take", 1, []api.Call{put(7, 0, 3), take(7, 4, 5)}, []int{0}},
		{"put, another one is taken", 1, []api.Call{put(7, 0, 3), take(8, 4, 5)}, nil},
		{"put and take at once", 1, []api.Call{put(7, 0, 9), take(7, 4, 5)}, []int{0}},
		{"take ahead of put", 1, []api.Call{put(7, 6, 9), take(7, 4, 5)}, nil},
		{"put, put: Full", 1, []api.Call{put(7, 0, 3), full(8, 4, 5), take(7, 6, 7), empty(8, 9)}, []int{0}},
		{"put, put: Full, of two slots", 2, []api.Call{put(7, 0, 3), full(8, 4, 5)}, nil},
		{"put, put, of one slot", 1, []api.Call{put(7, 0, 3), put(8, 4, 5)}, nil},
		{"put, put, with a take within", 1, []api.Call{put(7, 0, 3), put(8, 4, 9), take(7, 5, 8)}, []int{1}},
		{"Full, with a take within", 1, []api.Call{put(7, 0, 3), full(8, 4, 9), take(7, 5, 8)}, []int{0}},
		{"Full behind a take", 1, []api.Call{put(7, 0, 3), full(8, 9, 12), take(7, 5, 8)}, nil},
		{"in order", 4, []api.Call{put(7, 0, 1), put(8, 2, 3), take(7, 4, 5), take(8, 6, 7)}, []int{0}},
		{"out of order", 4, []api.Call{put(7, 0, 1), put(8, 2, 3), take(8, 4, 5), take(7, 6, 7)}, nil},
		{"twice", 4, []api.Call{put(7, 0, 1), put(8, 2, 3), take(7, 4, 5), take(7, 6, 7)}, nil},
		{"one lost", 4, []api.Call{put(7, 0, 1), put(8, 2, 3), take(8, 4, 5)}, nil},
		{"a put that has not ended", 1, []api.Call{put(7, 0, -1)}, []int{0, 1}},
		{"a put that has not ended, coded Full", 1, []api.Call{full(7, 0, -1)}, []int{0, 1}},
		{"a put that has not ended, where none may", 1, []api.Call{put(7, 0, 3), put(8, 4, -1)}, []int{1}},
		{"a put that has not ended, and was taken", 1, []api.Call{put(7, 0, -1), take(7, 4, 5)}, []int{0}},
		{"a put that has not ended, and Empty", 1, []api.Call{put(7, 0, -1), empty(4, 5)}, []int{0, 1}},
		{"a put that has not begun", 1, []api.Call{put(7, 6, -1), take(7, 4, 5)}, nil},
		{"a take that has not ended", 2, []api.Call{put(7, 0, 3), take(9, 4, -1)}, []int{0, 1}},
		{"a take that has not ended, of none", 2, []api.Call{take(9, 4, -1)}, []int{0}},
		{"a take that has not ended, ahead of a put or behind it", 2, []api.Call{take(9, 4, -1), put(7, 5, 6)}, []int{0, 1}},
		{"a take that has not ended makes room", 1, []api.Call{put(7, 0, 3), take(9, 4, -1), put(8, 5, 6)}, []int{1}},
		{"a take that has not ended, coded Empty, makes room", 1, []api.Call{put(7, 0, 3), empty(4, -1), put(8, 5, 6)}, []int{1}},
		{"a take that has not begun makes none", 1, []api.Call{put(7, 0, 3), take(9, 7, -1), put(8, 5, 6)}, nil},
		{"both have not ended", 2, []api.Call{put(7, 0, 1), put(8, 2, -1), take(9, 3, -1)}, []int{0, 1, 2}},
		{"the order in which they stand does not matter", 2, []api.Call{take(8, 8, 9), put(8, 2, 3), take(7, 5, 6), put(7, 0, 1)}, []int{0}},
		{"one process puts and takes", 1, []api.Call{by(0, take(7, 4, 5)), put(7, 0, 3), by(0, empty(6, 7)), put(8, 8, 9)}, []int{1}},
		{"one process takes ahead of putting", 1, []api.Call{by(0, take(7, 0, 1)), put(7, 2, 3)}, nil},
	} {
		if got := linfifo.Lengths(c.slots, c.l); !slices.Equal(got, c.want) {
			t.Errorf("%s: Lengths: %v, not %v", c.name, got, c.want)
		}
		if linfifo.Check(c.slots, c.l) != (len(c.want) > 0) {
			t.Errorf("%s: Check is not %v", c.name, len(c.want) > 0)
		}
	}
}

// P23.2: records are whole.
func TestRecords(t *testing.T) {
	l := []api.Call{{Op: api.OpPut, Rec: []uint32{1, 2}, End: 3}, {Proc: 1, Op: api.OpTake, Begin: 4, End: 5}}
	for _, c := range []struct {
		rec  []uint32
		want bool
	}{{[]uint32{1, 2}, true}, {[]uint32{1}, false}, {[]uint32{1, 3}, false}, {[]uint32{2, 2}, false}, {nil, false}, {[]uint32{1, 2, 0}, false}} {
		l[1].Rec = c.rec
		if linfifo.Check(1, l) != c.want || linfifo.Follows(l) != c.want {
			t.Errorf("%v: Check, or Follows, is not %v", c.rec, c.want)
		}
	}
}

// P23.4: Follows.
func TestFollows(t *testing.T) {
	for _, c := range []struct {
		name string
		l    []api.Call
		want bool
	}{
		{"none", nil, true},
		{"puts alone", []api.Call{put(7, 0, 1), put(8, 2, 3)}, true},
		{"the first one", []api.Call{put(7, 0, 1), put(8, 2, 3), take(7, 4, 5)}, true},
		{"both", []api.Call{put(7, 0, 1), put(8, 2, 3), take(7, 4, 5), take(8, 6, 7)}, true},
		{"turned round", []api.Call{take(8, 6, 7), put(8, 2, 3), take(7, 4, 5), put(7, 0, 1)}, true},
		{"whatever the times are", []api.Call{take(7, 0, 1), put(7, 2, 3)}, true},
		{"whatever is told of room", []api.Call{empty(2, 3), put(7, 0, 1), full(8, 2, 3), take(7, 4, 5)}, true},
		{"the second one", []api.Call{put(7, 0, 1), put(8, 2, 3), take(8, 4, 5)}, false},
		{"twice", []api.Call{put(7, 0, 1), put(8, 2, 3), take(7, 4, 5), take(7, 6, 7)}, false},
		{"out of order", []api.Call{put(7, 0, 1), put(8, 2, 3), take(8, 4, 5), take(7, 6, 7)}, false},
		{"one more", []api.Call{put(7, 0, 1), take(7, 4, 5), take(8, 6, 7)}, false},
		{"one that was not put: Full", []api.Call{full(7, 0, 1), take(7, 4, 5)}, false},
		{"behind one that was not put", []api.Call{full(7, 0, 1), put(8, 2, 3), take(8, 4, 5)}, true},
		{"one whose put has not ended", []api.Call{put(7, 0, -1), take(7, 4, 5)}, true},
		{"one whose put has not ended, coded Full", []api.Call{full(7, 0, -1), take(7, 4, 5)}, true},
		{"a take that has not ended tells none", []api.Call{put(7, 0, 1), take(9, 4, -1)}, true},
		{"Empty tells none", []api.Call{put(7, 0, 1), coded(take(9, 4, 5), api.Empty), take(7, 6, 7)}, true},
	} {
		if linfifo.Follows(c.l) != c.want {
			t.Errorf("%s: Follows is not %v", c.name, c.want)
		}
	}
}

// row is calls of a process that has one way, with its code, or the other one.
func row(r *rand.Rand, proc, op, other, most int) []api.Call {
	var l []api.Call
	time := r.IntN(4)
	for range r.IntN(1 + most) {
		c := api.Call{Proc: proc, Op: op, Rec: []uint32{r.Uint32N(2)}, Begin: time, End: time + r.IntN(6)}
		if r.IntN(3) == 0 {
			c.Code = other
		}
		time = c.End + 1 + r.IntN(3)
		l = append(l, c)
	}
	if len(l) > 0 && r.IntN(3) == 0 {
		l[len(l)-1].End = -1
	}
	return l
}

// some is a queue's calls, of few times and words.
func some(r *rand.Rand, most int) []api.Call {
	l := slices.Concat(row(r, 0, api.OpPut, api.Full, most), row(r, 1, api.OpTake, api.Empty, most))
	r.Shuffle(len(l), func(i, k int) { l[i], l[k] = l[k], l[i] })
	return l
}

// step is what a queue is behind a call, and whether the call may come.
func step(slots int, queue [][]uint32, c api.Call) ([][]uint32, bool) {
	has := len(queue) > 0
	switch {
	case c.Op == api.OpPut && (c.End < 0 || c.Code == api.Good):
		return append(slices.Clip(queue), c.Rec), len(queue) < slots
	case c.Op == api.OpPut:
		return queue, len(queue) == slots
	case c.End >= 0 && c.Code == api.Empty:
		return queue, !has
	case !has:
		return queue, c.End < 0
	}
	return queue[1:], c.End < 0 || record.Same(queue[0], c.Rec)
}

// lengths goes through all orders in which calls can be put, and marks how long the queue is at last.
func lengths(slots int, queue [][]uint32, l []api.Call, met map[int]bool) {
	if !slices.ContainsFunc(l, func(c api.Call) bool { return c.End >= 0 }) {
		met[len(queue)] = true
	}
	for i, c := range l {
		rest := slices.Delete(slices.Clone(l), i, i+1)
		if slices.ContainsFunc(rest, func(b api.Call) bool { return history.Before(b, c) }) {
			continue
		}
		if next, ok := step(slots, queue, c); ok {
			lengths(slots, next, rest, met)
		}
	}
}

// P23.2 to P23.4: Lengths and Check are what all orders say; what linearizes follows.
func TestAllOrders(t *testing.T) {
	r := rand.New(rand.NewPCG(23, 1))
	found := map[bool]int{}
	long := 0
	for range 60000 {
		l := some(r, 4)
		most := r.IntN(5) - 1
		met := map[int]bool{}
		lengths(most, nil, l, met)
		var want []int
		for n := range 10 {
			if met[n] {
				want = append(want, n)
			}
		}
		if got := linfifo.Lengths(most, l); !slices.Equal(got, want) {
			t.Fatalf("Lengths of %v in %d slots: %v, not %v", l, most, got, want)
		}
		ok := len(want) > 0
		if linfifo.Check(most, l) != ok {
			t.Fatalf("Check of %v in %d slots is not %v", l, most, ok)
		}
		if ok && !linfifo.Follows(l) {
			t.Fatalf("%v linearizes, but does not follow", l)
		}
		found[ok]++
		if len(want) > 1 {
			long++
		}
	}
	if found[true] < 3000 || found[false] < 3000 || long < 300 {
		t.Errorf("too few of one kind: %v, %d of several lengths", found, long)
	}
}

// P23.4: Follows is what its words say.
func TestFollowsOfMany(t *testing.T) {
	r := rand.New(rand.NewPCG(23, 4))
	found := map[bool]int{}
	for range 20000 {
		l := some(r, 4)
		var in, out [][]uint32
		for _, c := range history.Sort(l) {
			if c.Op == api.OpPut && (c.Code == api.Good || c.End < 0) {
				in = append(in, c.Rec)
			}
			if c.Op == api.OpTake && c.Code == api.Good && c.End >= 0 {
				out = append(out, c.Rec)
			}
		}
		want := len(out) <= len(in) && slices.EqualFunc(in[:min(len(in), len(out))], out, record.Same)
		if linfifo.Follows(l) != want {
			t.Fatalf("Follows of %v is not %v", l, want)
		}
		found[want]++
	}
	if found[true] < 1000 || found[false] < 1000 {
		t.Errorf("too few of one kind: %v", found)
	}
}

// P23.1: what is handed in stays as it is.
func TestUnchanged(t *testing.T) {
	made := func() []api.Call {
		return []api.Call{take(8, 8, 9), put(8, 2, 3), take(7, 5, 6), put(7, 0, 1)}
	}
	l := made()
	linfifo.Fits(l)
	linfifo.Check(2, l)
	linfifo.Follows(l)
	linfifo.Lengths(2, l)[0] = 9
	if !reflect.DeepEqual(l, made()) {
		t.Errorf("what was handed in is now %v", l)
	}
	if got := linfifo.Lengths(2, l); !slices.Equal(got, []int{0}) {
		t.Errorf("once more: %v", got)
	}
}

// P23.1: long histories are answered, too: also where one call goes on through all of the others.
func TestLong(t *testing.T) {
	var l []api.Call
	for k := range 20000 {
		l = append(l, put(uint32(k), 10*k, 10*k+5), take(uint32(k), 10*k+2, 10*k+7))
	}
	if got := linfifo.Lengths(1, l); !slices.Equal(got, []int{0}) {
		t.Errorf("one by one: %v", got)
	}
	l = []api.Call{put(7, 0, 100000)}
	for k := range 20000 {
		l = append(l, empty(2*k, 2*k))
	}
	if got := linfifo.Lengths(1, l); !slices.Equal(got, []int{1}) {
		t.Errorf("a long put: %v", got)
	}
}
