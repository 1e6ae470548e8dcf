package size_test

import (
	"math"
	"math/rand/v2"
	"slices"
	"testing"

	"coxswain/api"
	"coxswain/interfere"
	"coxswain/object"
	"coxswain/rta"
	"coxswain/size"
	"coxswain/system"
)

// instr is an instruction.
type instr = api.Instr

// like is an object of the kind, of one word, with as few slots and attempts as may be; task 0 writes it, 1 and 2 read it (1 alone, where there is one reader).
func like(kind int) api.Object {
	o := api.Object{Kind: kind, Width: 1, Init: []uint32{7}, Readers: []int{1, 2}}
	switch kind {
	case api.Seq:
		o.Cap = 1
	case api.Ring:
		o.Slots, o.Cap = 2, 1
	case api.Cab:
		o.Slots, o.Cap = 4, 1
	case api.Four:
		o.Readers = []int{1}
	case api.Fifo:
		o.Slots, o.Init, o.Readers = 1, nil, []int{1}
	}
	return o
}

// sharing is a system of three tasks, each ahead of the next one, that share the objects: the first one writes each of them so many times in 50 ticks, both others read it.
func sharing(writes int, objects ...api.Object) api.System {
	var codes [3][]instr
	for k, o := range objects {
		write, read := api.Write, api.Read
		if o.Kind == api.Fifo {
			write, read = api.Put, api.Take
		}
		for range writes {
			codes[0] = append(codes[0], instr{Op: write, B: k})
		}
		for _, i := range o.Readers {
			codes[i] = append(codes[i], instr{Op: read, B: k})
		}
	}
	s := api.System{Objects: objects}
	for i, period := range []int{50, 200, 1000} {
		code := append(codes[i], instr{Op: api.Done})
		s.Tasks = append(s.Tasks, api.Task{Kind: api.Periodic, Prio: 9 - i, Period: period, Deadline: period, Own: 1, Code: code})
	}
	return s
}

// P39.2: each kind: the most writes, and fails, that one of its readers has in its response.
func TestKinds(t *testing.T) {
	for kind, want := range map[int][2]int{api.Four: {0, 0}, api.Chen: {0, 0}, api.Seq: {0, 7}, api.Ring: {8, 7}, api.Cab: {0, 7}, api.Fifo: {0, 0}, 0: {0, 0}, 7: {0, 0}, math.MinInt: {0, 0}} {
		s := sharing(2, like(kind))
		if got := [2]int{size.Slots(s, 0, []int{999, 60, 101}), size.Caps(s, 0, []int{999, 60, 101})}; got != want {
			t.Errorf("kind %d: %v, not %v", kind, got, want)
		}
	}
}

// P39.2: whose response counts, and which numbers of slots, and of responses, are handed in.
func TestResponses(t *testing.T) {
	for _, c := range []struct {
		responses    []int
		slots        int
		seq, ring, r int // attempts of seq, of a ring of 2 slots, of one of 4
	}{
		{nil, 2, 1, 1, 1},
		{[]int{999}, 2, 1, 1, 1},
		{[]int{0, 50}, 4, 3, 3, 1},
		{[]int{0, 51}, 6, 5, 5, 2},
		{[]int{0, 0, 151}, 10, 9, 9, 3},
		{[]int{0, 51, 50}, 6, 5, 5, 2},
		{[]int{0, 50, 51, 99999}, 6, 5, 5, 2},
		{[]int{5, -7, math.MinInt}, 2, 1, 1, 1},
		{[]int{5, 7, math.MaxInt}, api.Top + 2, api.Top + 1, api.Top + 1, api.Top/3 + 1},
	} {
		seq, ring := sharing(2, like(api.Seq)), sharing(2, like(api.Ring))
		if size.Caps(seq, 0, c.responses) != c.seq || size.Slots(ring, 0, c.responses) != c.slots || size.Caps(ring, 0, c.responses) != c.ring {
			t.Errorf("%v: %d, %d, %d, not %v", c.responses, size.Caps(seq, 0, c.responses), size.Slots(ring, 0, c.responses), size.Caps(ring, 0, c.responses), c)
		}
		// How many slots the ring has does not matter for those that would do, but for its attempts.
		ring.Objects[0].Slots = 4
		if size.Slots(ring, 0, c.responses) != c.slots || size.Caps(ring, 0, c.responses) != c.r {
			t.Errorf("%v, of 4 slots: %d, %d, not %v", c.responses, size.Slots(ring, 0, c.responses), size.Caps(ring, 0, c.responses), c)
		}
	}
}

// P39.2: 0, if there is no such object; of readers that are none, or do not read, no writes count.
func TestNone(t *testing.T) {
	s := sharing(1, like(api.Ring), like(api.Seq))
	responses := []int{50, 50, 50}
	for _, k := range []int{-1, 2, math.MinInt, math.MaxInt} {
		if size.Slots(s, k, responses) != 0 || size.Caps(s, k, responses) != 0 {
			t.Errorf("object %d: %d, %d", k, size.Slots(s, k, responses), size.Caps(s, k, responses))
		}
	}
	for _, readers := range [][]int{nil, {0}, {3, -1, math.MinInt, math.MaxInt}} {
		s.Objects[0].Readers = readers
		if size.Slots(s, 0, responses) != 2 || size.Caps(s, 0, responses) != 1 {
			t.Errorf("readers %v: %d, %d", readers, size.Slots(s, 0, responses), size.Caps(s, 0, responses))
		}
	}
	s.Objects[0].Readers = []int{-1, 1, 1, 9}
	if size.Slots(s, 0, responses) != 3 || size.Caps(s, 0, responses) != 2 {
		t.Error("a reader among others:", size.Slots(s, 0, responses), size.Caps(s, 0, responses))
	}
	s.Tasks[0].Prio = 0
	if size.Slots(s, 0, responses) != 2 || size.Caps(s, 1, responses) != 1 {
		t.Error("the writer goes behind")
	}
	if size.Slots(api.System{}, 0, nil) != 0 || size.Caps(api.System{}, 0, nil) != 0 {
		t.Error("nothing")
	}
}

// fits is what Fit tells.
func fits(t *testing.T, name string, s, want api.System, ok bool) {
	t.Helper()
	was := system.Copy(s)
	fit, got := size.Fit(s)
	if !system.Same(fit, want) || got != ok {
		t.Errorf("%s: %v, %t, not %v", name, fit.Objects, got, want.Objects)
	}
	if !system.Same(s, was) {
		t.Errorf("%s: the system was changed", name)
	}
}

// changed is the system with other slots and attempts of the first object.
func changed(s api.System, slots, attempts int) api.System {
	s = system.Copy(s)
	s.Objects[0].Slots, s.Objects[0].Cap = slots, attempts
	return s
}

// P39.3: what is more than there is, is given; what is less is not.
func TestFit(t *testing.T) {
	// The response of 1 is below 50, so there is one release of the writer; that of 2 likewise.
	for _, c := range []struct {
		name         string
		kind, writes int
		slots, cap   int // those of the system
		fit          [2]int
	}{
		{"a ring of few slots", api.Ring, 3, 2, 1, [2]int{5, 4}},
		{"a ring of one slot too few", api.Ring, 3, 4, 1, [2]int{5, 2}},
		{"a ring of slots that would do", api.Ring, 3, 5, 1, [2]int{5, 1}},
		{"a ring of more slots and attempts", api.Ring, 3, 9, 8, [2]int{9, 8}},
		{"a ring of few slots and more attempts", api.Ring, 3, 2, 8, [2]int{5, 8}},
		{"a ring that nobody writes", api.Ring, 0, 2, 1, [2]int{2, 1}},
		{"seq of few attempts", api.Seq, 3, 0, 1, [2]int{0, 4}},
		{"seq of attempts that would do", api.Seq, 3, 0, 4, [2]int{0, 4}},
		{"seq of more attempts", api.Seq, 3, 0, 16, [2]int{0, 16}},
		{"cab of few attempts", api.Cab, 3, 4, 3, [2]int{4, 4}},
		{"cab of more attempts", api.Cab, 3, 16, 5, [2]int{16, 5}},
	} {
		o := like(c.kind)
		o.Slots, o.Cap = c.slots, c.cap
		s := sharing(c.writes, o)
		if !object.Shaped(o) {
			t.Fatal(o)
		}
		fits(t, c.name, s, changed(s, c.fit[0], c.fit[1]), true)
	}
	for _, kind := range []int{api.Four, api.Chen, api.Fifo} {
		s := sharing(2, like(kind))
		fits(t, "no slots, no attempts", s, s, true)
	}
	// The writer has 15 steps; 1 has 7, and 12 again, since four writes spoil four attempts; 2 has 7, and 24 again.
	s := sharing(2, like(api.Ring), like(api.Seq))
	if r, _, _, e := rta.All(s); e != api.OK || !slices.Equal(r, []int{15, 34, 80}) {
		t.Fatal(r, e)
	}
	want := changed(s, 6, 5)
	want.Objects[1].Cap = 5
	fits(t, "two objects", s, want, true)
	fits(t, "nothing", api.System{}, api.System{}, true)
}

// P39.3: the system, false, if somebody is late.
func TestLate(t *testing.T) {
	s := sharing(3, like(api.Ring), like(api.Seq))
	s.Tasks[1].Deadline = 3
	fits(t, "late", s, s, false)
	s = sharing(3, like(api.Ring))
	s.Tasks = append(s.Tasks, api.Task{Prio: 99, Period: 1, Deadline: 1, Code: []instr{{Op: api.Done}}})
	fits(t, "all ticks are taken", s, s, false)
}

// P39.3: false, if an object was Shaped, and is not with what would do; that is told as it would be.
func TestShaped(t *testing.T) {
	for _, c := range []struct {
		name   string
		kind   int
		writes int
		fit    [2]int
		ok     bool
	}{
		{"as many slots as may be", api.Ring, 14, [2]int{16, 15}, true},
		{"a slot more than may be", api.Ring, 15, [2]int{17, 16}, false},
		{"as many attempts as may be", api.Seq, 15, [2]int{0, 16}, true},
		{"an attempt more than may be", api.Seq, 16, [2]int{0, 17}, false},
		{"an attempt more than may be, of cab", api.Cab, 16, [2]int{4, 17}, false},
	} {
		s := sharing(c.writes, like(c.kind))
		for i := range s.Tasks {
			s.Tasks[i].Period, s.Tasks[i].Deadline = 9999, 9999
		}
		fits(t, c.name, s, changed(s, c.fit[0], c.fit[1]), c.ok)
	}
	// What was not Shaped need not be.
	s := sharing(3, like(api.Ring))
	s.Objects[0].Start = math.MaxUint32
	fits(t, "a ring that starts nowhere", s, changed(s, 5, 4), true)
	for _, slots := range []int{1, 0, -1, math.MinInt} {
		s := sharing(3, like(api.Ring))
		s.Objects[0].Slots, s.Objects[0].Cap = slots, math.MinInt
		fits(t, "a ring of no slots", s, changed(s, 5, 4), true)
	}
	// What a kind has not stays as it is.
	for kind, want := range map[int][2]int{api.Seq: {-3, 1}, api.Four: {-3, -4}, api.Chen: {-3, -4}, api.Fifo: {-3, -4}, api.Cab: {-3, 1}, 9: {-3, -4}} {
		s := sharing(0, like(kind))
		s.Objects[0].Slots, s.Objects[0].Cap = -3, -4
		fits(t, "below nought", s, changed(s, want[0], want[1]), true)
	}
}

// P39.1: what is told shares nothing with what is handed in.
func TestApart(t *testing.T) {
	for _, deadline := range []int{200, 1} {
		s := sharing(3, like(api.Ring), like(api.Seq))
		s.Tasks[1].Deadline = deadline
		was := system.Copy(s)
		fit, _ := size.Fit(s)
		for i := range fit.Tasks {
			fit.Tasks[i].Code[0] = instr{Op: api.Cas}
			fit.Tasks[i].Period = 0
		}
		for k := range fit.Objects {
			fit.Objects[k].Init[0], fit.Objects[k].Readers[0], fit.Objects[k].Kind = 99, 99, 99
		}
		if !system.Same(s, was) {
			t.Errorf("deadline %d: %v, not %v", deadline, s, was)
		}
	}
}

// some picks one of the items.
func some[T any](rnd *rand.Rand, l ...T) T { return l[rnd.IntN(len(l))] }

// P39.3, held against its words; P39.4: in the responses that there were no read is spoilt as often as it has attempts then, and a ring's reader not at all.
func TestEnough(t *testing.T) {
	rnd := rand.New(rand.NewPCG(39, 4))
	done, more := 0, 0
	for range 1500 {
		var objects []api.Object
		for range 1 + rnd.IntN(3) {
			o := like(1 + rnd.IntN(6))
			if o.Cap > 0 {
				o.Cap = 1 + rnd.IntN(5)
			}
			if o.Kind == api.Ring {
				o.Slots = 2 + rnd.IntN(6)
			}
			objects = append(objects, o)
		}
		s := sharing(rnd.IntN(5), objects...)
		for i := range s.Tasks {
			s.Tasks[i].Prio = rnd.IntN(3)
			s.Tasks[i].Period = some(rnd, 40, 60, 100, 400, 1500)
			s.Tasks[i].Deadline = s.Tasks[i].Period
		}
		fit, ok := size.Fit(s)
		responses, _, _, e := rta.All(s)
		if e != api.OK {
			if ok || !system.Same(fit, s) {
				t.Fatal(s, fit, ok)
			}
			continue
		}
		done++
		if !system.Same(fit, s) {
			more++
		}
		shaped := true
		for k, o := range fit.Objects {
			want := s.Objects[k]
			if want.Kind == api.Ring {
				want.Slots = max(want.Slots, size.Slots(s, k, responses))
			}
			if slices.Contains([]int{api.Seq, api.Ring, api.Cab}, want.Kind) {
				want.Cap = max(want.Cap, size.Caps(s, k, responses))
			}
			if o.Slots != want.Slots || o.Cap != want.Cap {
				t.Fatalf("%v: %v, not %v", s, o, want)
			}
			shaped = shaped && object.Shaped(o)
			for _, i := range o.Readers {
				fails, writes := interfere.Fails(fit, i, k, responses[i]), interfere.Writes(fit, i, k, responses[i])
				if o.Cap > 0 && fails >= o.Cap || o.Kind == api.Ring && (fails > 0 || writes > o.Slots-2) {
					t.Fatalf("%v, task %d, object %d: %d writes, %d fails", fit, i, k, writes, fails)
				}
			}
		}
		if ok != shaped {
			t.Fatalf("%v: %t", fit, ok)
		}
	}
	if done < 300 || more < 100 {
		t.Error(done, more)
	}
}
