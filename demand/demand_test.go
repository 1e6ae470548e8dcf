package demand_test

import (
	"math"
	"math/rand/v2"
	"slices"
	"testing"

	"coxswain/api"
	"coxswain/bound"
	"coxswain/cost"
	"coxswain/demand"
	"coxswain/flow"
	"coxswain/mem"
	"coxswain/object"
	"coxswain/paths"
	"coxswain/system"
)

// instr is an instruction.
type instr = api.Instr

// objects is one of each kind; as many reads as may be of those that have attempts are three.
func objects() []api.Object {
	first := []uint32{1, 2}
	return []api.Object{
		{Kind: api.Seq, Width: 2, Cap: 3, Init: first, Readers: []int{1}},
		{Kind: api.Fifo, Width: 2, Slots: 2, Readers: []int{1}},
		{Kind: api.Cab, Width: 2, Slots: 4, Cap: 3, Init: first, Readers: []int{1, 2}},
		{Kind: api.Ring, Width: 2, Slots: 3, Cap: 3, Init: first, Readers: []int{1}},
		{Kind: api.Four, Width: 2, Init: first, Readers: []int{1}},
		{Kind: api.Chen, Width: 2, Init: first, Readers: []int{1, 2}},
	}
}

// one is a system of one task with this program, and all objects.
func one(code ...instr) api.System {
	return api.System{Tasks: []api.Task{{Code: code}}, Objects: objects()}
}

// both is what Clean and Whole tell, with their errors.
func both(s api.System, i int) [4]int {
	clean, e := demand.Clean(s, i)
	whole, f := demand.Whole(s, i)
	return [4]int{clean, int(e), whole, int(f)}
}

// P36.2: what a call takes, of each kind, if no attempt fails, and if all do; what an instruction takes that is no call.
func TestCalls(t *testing.T) {
	done := instr{Op: api.Done}
	for _, c := range []struct {
		name         string
		code         []instr
		clean, whole int
	}{
		{"done", nil, 1, 1},
		{"read of seq", []instr{{Op: api.Read, B: 0}}, 5, 13},
		{"write of seq", []instr{{Op: api.Write, B: 0}}, 6, 6},
		{"put", []instr{{Op: api.Put, B: 1}}, 6, 6},
		{"take", []instr{{Op: api.Take, B: 1}}, 6, 6},
		{"read of cab", []instr{{Op: api.Read, B: 2}}, 7, 13},
		{"write of cab", []instr{{Op: api.Write, B: 2}}, 7, 7},
		{"read of ring", []instr{{Op: api.Read, B: 3}}, 5, 13},
		{"write of ring", []instr{{Op: api.Write, B: 3}}, 5, 5},
		{"read of four", []instr{{Op: api.Read, B: 4}}, 6, 6},
		{"write of chen", []instr{{Op: api.Write, B: 5}}, 9, 9},
		{"put into seq", []instr{{Op: api.Put, B: 0}}, 2, 2},
		{"read of none", []instr{{Op: api.Read, B: 6}}, 2, 2},
		{"two reads", []instr{{Op: api.Read, B: 0}, {Op: api.Read, B: 2}}, 11, 25},
		{"a loop", []instr{{Op: api.Nop}, {Op: api.Read, B: 0}, {Op: api.Back, C: 2, N: 1}}, 17, 41},
		{"the dearer way", []instr{{Op: api.Zero, N: 3}, {Op: api.Read, B: 2}, {Op: api.Jump, N: 4}, {Op: api.Read, B: 0}}, 9, 15},
		{"which way is the dearer one", []instr{{Op: api.Zero, N: 3}, {Op: api.Write, B: 5}, {Op: api.Jump, N: 4}, {Op: api.Read, B: 0}}, 11, 14},
		{"a done ahead", []instr{{Op: api.Zero, N: 3}, {Op: api.Read, B: 0}, {Op: api.Done}, {Op: api.Nop}}, 6, 14},
	} {
		if got := both(one(append(c.code, done)...), 0); got != [4]int{c.clean, 0, c.whole, 0} {
			t.Errorf("%s: %v, not %d, %d", c.name, got, c.clean, c.whole)
		}
	}
}

// P36.2: 0 and ErrArg, if there is no such task; the error of the program, and 0.
func TestErrors(t *testing.T) {
	done, nop := instr{Op: api.Done}, instr{}
	s := api.System{Tasks: []api.Task{
		{Code: []instr{done}},
		{},
		{Code: append(make([]instr, api.MaxCode), done)},
		{Code: []instr{{Op: 22}, done}},
		{Code: []instr{{Op: api.Read, B: 8}, done}},
		{Code: []instr{{Op: api.Jump}, done}},
		{Code: []instr{nop}},
		{Code: []instr{nop, nop, {Op: api.Back, C: 1}, {Op: api.Back, C: 1, N: 1}, done}},
		{Code: append(make([]instr, api.MaxCode-1), done)},
	}, Objects: objects()}
	for i, want := range []api.Errno{api.OK, api.ErrArg, api.ErrArg, api.ErrForm, api.ErrForm, api.ErrFlow, api.ErrFlow, api.ErrLoop, api.OK} {
		n := 0
		if want == api.OK {
			n = len(s.Tasks[i].Code)
		}
		if got := both(s, i); got != [4]int{n, int(want), n, int(want)} {
			t.Errorf("task %d: %v, not %d", i, got, want)
		}
	}
	for _, i := range []int{-1, 9, math.MinInt, math.MaxInt} {
		if got := both(s, i); got != [4]int{0, int(api.ErrArg), 0, int(api.ErrArg)} {
			t.Errorf("task %d: %v", i, got)
		}
	}
	if got := both(api.System{}, 0); got != [4]int{0, int(api.ErrArg), 0, int(api.ErrArg)} {
		t.Error(got)
	}
}

// counts is what Writes and Reads tell.
func counts(s api.System, i, k int) [2]int {
	return [2]int{demand.Writes(s, i, k), demand.Reads(s, i, k)}
}

// P36.3: which instructions count, of which object; on the walk that has the most of them, not on the one that takes longest.
func TestCounts(t *testing.T) {
	write, read := instr{Op: api.Write, B: 1, A: 3, N: 5}, instr{Op: api.Read, B: 1}
	put, take := instr{Op: api.Put, B: 1}, instr{Op: api.Take, B: 1}
	far, done := instr{Op: api.Read, B: 2}, instr{Op: api.Done}
	for _, c := range []struct {
		name string
		code []instr
		want [2]int
	}{
		{"done", []instr{done}, [2]int{0, 0}},
		{"write", []instr{write, done}, [2]int{1, 0}},
		{"read", []instr{read, done}, [2]int{0, 1}},
		{"put", []instr{put, done}, [2]int{1, 0}},
		{"take", []instr{take, done}, [2]int{0, 1}},
		{"all four", []instr{write, take, put, put, read, done}, [2]int{3, 2}},
		{"another object", []instr{far, far, write, done}, [2]int{1, 0}},
		{"no calls, but their numbers", []instr{{Op: api.Set, B: 0, N: 1}, {Op: api.Move, B: 1}, {Op: api.Add, A: 1, B: 1, C: 1}, done}, [2]int{0, 0}},
		{"two loops, one in the other", []instr{read, write, {Op: api.Back, C: 2, N: 1}, read, {Op: api.Back, C: 3}, done}, [2]int{12, 8}},
		{"either, or", []instr{{Op: api.Zero, N: 4}, read, read, {Op: api.Jump, N: 6}, write, far, done}, [2]int{1, 2}},
		{"few steps, but more writes", []instr{{Op: api.Zero, N: 5}, far, far, far, {Op: api.Jump, N: 7}, write, write, done}, [2]int{2, 0}},
		{"a done ahead", []instr{{Op: api.Zero, N: 4}, write, write, done, read, done}, [2]int{2, 1}},
		{"never come to", []instr{{Op: api.Jump, N: 2}, write, done}, [2]int{0, 0}},
		{"a program that may not be", []instr{write, read}, [2]int{0, 0}},
		{"a call that is not right", []instr{write, {Op: api.Write, A: 8, B: 1}, done}, [2]int{0, 0}},
		{"no program", nil, [2]int{0, 0}},
	} {
		s := one(c.code...)
		if got := counts(s, 0, 1); got != c.want {
			t.Errorf("%s: %v, not %v", c.name, got, c.want)
		}
		// Nothing is asked of the object, but that it is there.
		s.Objects = make([]api.Object, 2)
		if got := counts(s, 0, 1); got != c.want {
			t.Errorf("%s, of no kind: %v, not %v", c.name, got, c.want)
		}
		s.Objects = s.Objects[:1]
		if got := counts(s, 0, 1); got != [2]int{} {
			t.Errorf("%s, without the object: %v", c.name, got)
		}
	}
}

// P36.3: 0, if there is no such task, or object.
func TestCountsOfNone(t *testing.T) {
	s := one(instr{Op: api.Write, B: 5}, instr{Op: api.Read, B: 5}, instr{Op: api.Done})
	s.Objects = append(s.Objects, api.Object{}, api.Object{}, api.Object{})
	for _, n := range []int{-1, 9, 10, math.MinInt, math.MaxInt} {
		if counts(s, n, 5) != [2]int{} || counts(s, 0, n) != [2]int{} || counts(s, n, n) != [2]int{} {
			t.Errorf("%d: %v, %v", n, counts(s, n, 5), counts(s, 0, n))
		}
	}
	for k := range s.Objects {
		want := [2]int{}
		if k == 5 {
			want = [2]int{1, 1}
		}
		if counts(s, 0, k) != want {
			t.Errorf("object %d: %v", k, counts(s, 0, k))
		}
	}
	if counts(api.System{}, 0, 0) != [2]int{} {
		t.Error("nothing")
	}
}

// P36.2, P36.3: what passes Top is Top.
func TestTop(t *testing.T) {
	code := []instr{{Op: api.Write, B: 0}, {Op: api.Read, B: 0}}
	for range 8 {
		code = append(code, instr{Op: api.Back, C: 255})
	}
	s := one(append(code, instr{Op: api.Done})...)
	if got := both(s, 0); got != [4]int{api.Top, 0, api.Top, 0} || counts(s, 0, 0) != [2]int{api.Top, api.Top} {
		t.Error(got, counts(s, 0, 0))
	}
	// Five loops of 256 rounds are 2^40 just, four are fewer.
	s = one(append(slices.Clone(code[:7]), instr{Op: api.Done})...)
	if counts(s, 0, 0) != [2]int{api.Top, api.Top} {
		t.Error(counts(s, 0, 0))
	}
	s = one(append(slices.Clone(code[:6]), instr{Op: api.Done})...)
	if counts(s, 0, 0) != [2]int{1 << 32, 1 << 32} {
		t.Error(counts(s, 0, 0))
	}
}

// program is a small program that may be.
func program(rnd *rand.Rand) []instr {
	for {
		var p []instr
		for range 1 + rnd.IntN(8) {
			p = append(p, instr{Op: api.Read + rnd.IntN(4), B: rnd.IntN(7)})
			switch rnd.IntN(6) {
			case 0:
				p[len(p)-1] = instr{Op: api.Zero, N: uint32(rnd.IntN(9))}
			case 1:
				p[len(p)-1] = instr{Op: api.Jump, N: uint32(rnd.IntN(9))}
			case 2:
				p[len(p)-1] = instr{Op: api.Back, C: 1 + rnd.IntN(2), N: uint32(rnd.IntN(9))}
			case 3:
				p[len(p)-1] = instr{Op: api.Done}
			}
		}
		p = append(p, instr{Op: api.Done})
		if _, e := flow.Check(p); e == api.OK {
			return p
		}
	}
}

// walks is all walks through a program; false, if one of them has more choices than are tried.
func walks(p []instr) ([][]int, bool) {
	const most = 7
	var l [][]int
	for n := range 1 << most {
		choose := make([]bool, most)
		for at := range choose {
			choose[at] = n>>at&1 == 1
		}
		walk, _ := paths.Walk(p, choose, math.MaxInt)
		choices := 0
		for _, at := range walk {
			if p[at].Op == api.Zero {
				choices++
			}
		}
		if choices > most {
			return nil, false
		}
		l = append(l, walk)
	}
	return l, true
}

// called is how many places of a walk are calls of an object by one of two kinds.
func called(p []instr, walk []int, k, a, b int) int {
	n := 0
	for _, at := range walk {
		if (p[at].Op == a || p[at].Op == b) && p[at].B == k {
			n++
		}
	}
	return n
}

// P36.2, P36.3: held against all walks of small programs.
func TestWalks(t *testing.T) {
	rnd := rand.New(rand.NewPCG(36, 2))
	for range 1500 {
		p := program(rnd)
		s := one(p...)
		l, ok := walks(p)
		if !ok {
			continue
		}
		clean, whole := 0, 0
		var most [8][2]int
		for _, walk := range l {
			clean = max(clean, cost.Of(bound.Weights(s, 0, 0), walk))
			whole = max(whole, cost.Of(bound.Weights(s, 0, api.MaxCap), walk))
			for k := range s.Objects {
				most[k][0] = max(most[k][0], called(p, walk, k, api.Write, api.Put))
				most[k][1] = max(most[k][1], called(p, walk, k, api.Read, api.Take))
			}
		}
		if got := both(s, 0); got != [4]int{clean, 0, whole, 0} {
			t.Fatalf("%v: %v, not %d, %d", p, got, clean, whole)
		}
		for k := range 8 {
			if got := counts(s, 0, k); got != most[k] {
				t.Fatalf("%v, object %d: %v, not %v", p, k, got, most[k])
			}
		}
	}
}

// job makes the steps of a job that goes such a walk, and tells how many they are: of each call those of the operation, of which the memory may be disturbed ahead of each.
func job(s api.System, p []instr, walk []int, disturb func(m *mem.Mem)) int {
	n := 0
	for _, at := range walk {
		k, op := p[at].B, p[at].Op
		kind := map[int]int{api.Read: api.OpRead, api.Write: api.OpWrite, api.Put: api.OpPut, api.Take: api.OpTake}[op]
		if kind == 0 || k >= len(s.Objects) {
			n++
			continue
		}
		o := s.Objects[k]
		var rec []uint32
		if kind == api.OpWrite || kind == api.OpPut {
			rec = make([]uint32, o.Width)
		}
		x, e := object.Begin(o, 0, kind, 0, rec)
		if e != api.OK {
			n++
			continue
		}
		m, _ := mem.New(object.Size(o))
		m.Fill(0, object.Lay(o))
		for !x.Over() {
			disturb(m)
			x.Step(m)
		}
		n += x.Steps()
	}
	return n
}

// P36.4: a job of which no attempt fails makes at most Clean steps, any one at most Whole, and Clean is no more than that; the dearest walk without disturbance makes just as many as Clean says, if it takes no calls that end ahead.
func TestJobs(t *testing.T) {
	rnd := rand.New(rand.NewPCG(36, 4))
	for range 300 {
		p := program(rnd)
		s := one(p...)
		clean, _ := demand.Clean(s, 0)
		whole, _ := demand.Whole(s, 0)
		if clean > whole {
			t.Fatalf("%v: %d, %d", p, clean, whole)
		}
		l, _ := walks(p)
		for _, walk := range l {
			if n := job(s, p, walk, func(*mem.Mem) {}); n > clean {
				t.Fatalf("%v, %v: %d, more than %d", p, walk, n, clean)
			}
			if n := job(s, p, walk, func(m *mem.Mem) { m.Write(0, rnd.Uint32()) }); n > whole {
				t.Fatalf("%v, %v: %d, more than %d", p, walk, n, whole)
			}
		}
	}
	p := []instr{{Op: api.Read, B: 0}, {Op: api.Write, B: 2}, {Op: api.Back, C: 3}, {Op: api.Put, B: 1}, {Op: api.Done}}
	walk, _ := paths.Walk(p, nil, math.MaxInt)
	clean, _ := demand.Clean(one(p...), 0)
	if n := job(one(p...), p, walk, func(*mem.Mem) {}); n != clean {
		t.Errorf("%d, not %d", n, clean)
	}
	count := uint32(0)
	whole, _ := demand.Whole(one(p[0], p[4]), 0)
	if n := job(one(p[0], p[4]), []instr{p[0], p[4]}, []int{0, 1}, func(m *mem.Mem) {
		// Changed ahead of each attempt's last step.
		if count++; count%4 == 0 {
			m.Write(0, 2*count)
		}
	}); n != whole {
		t.Errorf("%d, not %d", n, whole)
	}
}

// P36.1: what is handed in is not changed.
func TestApart(t *testing.T) {
	s := one(instr{Op: api.Read}, instr{Op: api.Done})
	was := system.Copy(s)
	if both(s, 0) != both(s, 0) || counts(s, 0, 0) != counts(s, 0, 0) || !system.Same(s, was) {
		t.Error(s, was)
	}
}
