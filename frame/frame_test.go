package frame_test

import (
	"math"
	"slices"
	"testing"

	"coxswain/alu"
	"coxswain/api"
	"coxswain/cost"
	"coxswain/flow"
	"coxswain/frame"
	"coxswain/mem"
)

type (
	instr  = api.Instr
	region = api.Region
	regs   = [api.Regs]uint32
)

// The instructions of the tests' programs.
var (
	nop  = instr{}
	done = instr{Op: api.Done}
)

func jump(n int) instr    { return instr{Op: api.Jump, N: uint32(n)} }
func zero(a, n int) instr { return instr{Op: api.Zero, A: a, N: uint32(n)} }
func back(n, c int) instr { return instr{Op: api.Back, C: c, N: uint32(n)} }

// wrong are programs of which Check says no OK.
var wrong = [][]instr{
	nil, {}, {nop}, {done, nop}, {jump(0), done}, {zero(0, 5), done}, {back(0, 1), done}, {nop, back(0, 0), done}, {{Op: 22}, done},
	{nop, nop, back(0, 1), back(1, 1), done}, {zero(0, 2), nop, nop, back(1, 1), done}, slices.Repeat([]instr{done}, 65),
}

// made is a memory of these words.
func made(t *testing.T, words ...uint32) *mem.Mem {
	t.Helper()
	m, e := mem.New(len(words))
	if e != api.OK || m.Fill(0, words) != api.OK {
		t.Fatal("a memory cannot be made")
	}
	return m
}

// look is all words of a memory.
func look(m *mem.Mem) []uint32 {
	l, _ := m.Look(region{Len: m.Len()})
	return l
}

// same tells whether two frames are the same.
func same(a, b api.Frame) bool {
	return a.PC == b.PC && a.Regs == b.Regs && slices.Equal(a.Turns, b.Turns)
}

// apart is a frame like this one.
func apart(f api.Frame) api.Frame {
	f.Turns = append([]int(nil), f.Turns...)
	return f
}

// shares tells whether two lists have memory in common.
func shares(a, b []int) bool {
	a, b = a[:cap(a)], b[:cap(b)]
	for x := range a {
		for y := range b {
			if &a[x] == &b[y] {
				return true
			}
		}
	}
	return false
}

// P13.2: where a job begins, whatever the program is.
func TestStart(t *testing.T) {
	for _, n := range []int{0, 1, 2, 64, 65, 1000} {
		p := slices.Repeat([]instr{{Op: 77}}, n)
		f := frame.Start(p)
		if f.PC != 0 || f.Regs != (regs{}) || !slices.Equal(f.Turns, make([]int, n)) {
			t.Errorf("Start of %d: %v", n, f)
		}
		if n > 0 {
			f.Turns[0] = 5
			if frame.Start(p).Turns[0] != 0 {
				t.Error("an answer is shared")
			}
		}
	}
	if f := frame.Start(nil); !same(f, api.Frame{}) {
		t.Errorf("Start of none: %v", f)
	}
}

// P13.2: which frames are right.
func TestRight(t *testing.T) {
	p := []instr{nop, nop, back(1, 2), back(0, 255), done}
	for _, c := range []struct {
		pc    int
		turns []int
		want  bool
	}{
		{0, []int{0, 0, 0, 0, 0}, true},
		{4, []int{0, 0, 2, 255, 0}, true},
		{-1, []int{0, 0, 0, 0, 0}, false},
		{5, []int{0, 0, 0, 0, 0}, false},
		{math.MinInt, []int{0, 0, 0, 0, 0}, false},
		{math.MaxInt, []int{0, 0, 0, 0, 0}, false},
		{0, []int{0, 0, 3, 0, 0}, false},
		{0, []int{0, 0, -1, 0, 0}, false},
		{0, []int{0, 0, 0, 256, 0}, false},
		{0, []int{1, 0, 0, 0, 0}, false},
		{0, []int{-1, 0, 0, 0, 0}, false},
		{0, []int{0, 0, 0, 0, 1}, false},
		{0, []int{0, 0, math.MaxInt, 0, 0}, false},
		{0, []int{0, 0, math.MinInt, 0, 0}, false},
		{0, []int{0, 0, 0, 0}, false},
		{0, []int{0, 0, 0, 0, 0, 0}, false},
		{0, nil, false},
		{0, make([]int, 100000), false},
	} {
		f := api.Frame{PC: c.pc, Regs: regs{1, math.MaxUint32}, Turns: c.turns}
		if frame.Right(f, p) != c.want {
			t.Errorf("Right(%d, %.20v) is not %v", c.pc, c.turns[:min(len(c.turns), 6)], c.want)
		}
	}
	for _, p := range wrong {
		if frame.Right(frame.Start(p), p) {
			t.Errorf("a frame of %v is right", p)
		}
	}
}

// P13.3: each instruction, in the middle of a program; one's own words are five, from the place 2 on.
func TestEachInstruction(t *testing.T) {
	const top = math.MaxUint32
	own := region{At: 2, Len: 5}
	before := regs{0, 10, 3, 12, 0, 5, top, 1}
	words := []uint32{90, 91, 20, 21, 22, 23, 24, 97, 98}
	set := func(a int, w uint32) regs {
		r := before
		r[a] = w
		return r
	}
	for _, c := range []struct {
		i     instr
		pc    int
		regs  regs
		at    int // the place of a word that is otherwise, and what it is: none of -1
		w     uint32
		steps int
	}{
		{nop, 3, before, -1, 0, 0},
		{instr{Op: api.Set, A: 4, N: 77}, 3, set(4, 77), -1, 0, 0},
		{instr{Op: api.Set, A: 0, N: top}, 3, set(0, top), -1, 0, 0},
		{instr{Op: api.Move, A: 7, B: 3}, 3, set(7, 12), -1, 0, 0},
		{instr{Op: api.Move, A: 3, B: 3}, 3, before, -1, 0, 0},
		{instr{Op: api.Add, A: 4, B: 1, C: 3}, 3, set(4, 22), -1, 0, 0},
		{instr{Op: api.Add, A: 1, B: 6, C: 1}, 3, set(1, 9), -1, 0, 0},
		{instr{Op: api.Sub, A: 4, B: 1, C: 3}, 3, set(4, top-1), -1, 0, 0},
		{instr{Op: api.Mul, A: 4, B: 1, C: 3}, 3, set(4, 120), -1, 0, 0},
		{instr{Op: api.And, A: 4, B: 1, C: 3}, 3, set(4, 8), -1, 0, 0},
		{instr{Op: api.Or, A: 4, B: 1, C: 3}, 3, set(4, 14), -1, 0, 0},
		{instr{Op: api.Xor, A: 4, B: 1, C: 3}, 3, set(4, 6), -1, 0, 0},
		{instr{Op: api.Less, A: 4, B: 1, C: 3}, 3, set(4, 1), -1, 0, 0},
		{instr{Op: api.Less, A: 1, B: 3, C: 1}, 3, set(1, 0), -1, 0, 0},
		{instr{Op: api.Equal, A: 3, B: 3, C: 3}, 3, set(3, 1), -1, 0, 0},
		{instr{Op: api.Load, A: 0, B: 0, N: 0}, 3, set(0, 20), -1, 0, 1},
		{instr{Op: api.Load, A: 4, B: 2, N: 1}, 3, set(4, 24), -1, 0, 1},
		{instr{Op: api.Load, A: 4, B: 2, N: 2}, 3, set(4, 20), -1, 0, 1},   // number 5: round once
		{instr{Op: api.Load, A: 4, B: 1, N: 13}, 3, set(4, 23), -1, 0, 1},  // number 23
		{instr{Op: api.Load, A: 4, B: 6, N: 0}, 3, set(4, 20), -1, 0, 1},   // number 2^32 - 1, of which 0 is left
		{instr{Op: api.Load, A: 4, B: 6, N: 3}, 3, set(4, 22), -1, 0, 1},   // the sum goes round: number 2
		{instr{Op: api.Load, A: 4, B: 6, N: top}, 3, set(4, 24), -1, 0, 1}, // number 2^32 - 2
		{instr{Op: api.Store, A: 1, B: 2, N: 0}, 3, before, 5, 10, 1},
		{instr{Op: api.Store, A: 6, B: 6, N: 2}, 3, before, 3, top, 1},
		{instr{Op: api.Store, A: 1, B: 1, N: 9}, 3, before, 6, 10, 1},
		{instr{Op: api.Cas, A: 1, B: 2, C: 3, N: 0}, 3, set(1, 0), -1, 0, 1},
		{instr{Op: api.Jump, N: 4}, 4, before, -1, 0, 0},
		{instr{Op: api.Jump, N: 3}, 3, before, -1, 0, 0},
		{zero(0, 5), 5, before, -1, 0, 0},
		{zero(1, 5), 3, before, -1, 0, 0},
		{zero(6, 5), 3, before, -1, 0, 0},
		{zero(6, 3), 3, before, -1, 0, 0},
	} {
		p := []instr{nop, nop, c.i, nop, nop, done}
		f := api.Frame{PC: 2, Regs: before, Turns: make([]int, 6)}
		m := made(t, words...)
		want := slices.Clone(words)
		if c.at >= 0 {
			want[c.at] = c.w
		}
		g, k := frame.Step(f, p, m, own)
		if k != frame.Went || !same(g, api.Frame{PC: c.pc, Regs: c.regs, Turns: make([]int, 6)}) || m.Steps() != c.steps || !slices.Equal(look(m), want) {
			t.Errorf("%v: %d, %v, %d steps, %v", c.i, k, g, m.Steps(), look(m))
		}
		if f.PC != 2 || f.Regs != before || shares(f.Turns, g.Turns) {
			t.Errorf("%v: the frame that was handed in has changed, or is shared", c.i)
		}
	}
}

// P13.3: cas, if the word is as it is told, and if not; also of one register.
func TestCas(t *testing.T) {
	for _, c := range []struct {
		i    instr
		code uint32
		w    uint32
	}{
		{instr{Op: api.Cas, A: 1, B: 2, C: 3, N: 1}, 1, 33},
		{instr{Op: api.Cas, A: 3, B: 2, C: 1, N: 1}, 0, 7},
		{instr{Op: api.Cas, A: 1, B: 2, C: 1, N: 1}, 1, 7},
		{instr{Op: api.Cas, A: 1, B: 1, C: 3, N: 2}, 1, 33}, // number 9, of which 1 is left: the same word
	} {
		m := made(t, 6, 7, 8, 9)
		p := []instr{c.i, done}
		f := frame.Start(p)
		f.Regs = regs{0, 7, 0, 33}
		g, k := frame.Step(f, p, m, region{Len: 4})
		want := f.Regs
		want[c.i.A] = c.code
		if k != frame.Went || g.PC != 1 || g.Regs != want || !slices.Equal(look(m), []uint32{6, c.w, 8, 9}) || m.Steps() != 1 {
			t.Errorf("%v: %d, %v, %v", c.i, k, g, look(m))
		}
	}
}

// P13.3: back, as often as it may; then its Turns are 0 again.
func TestBack(t *testing.T) {
	p := []instr{nop, back(0, 2), back(0, 1), done}
	f := frame.Start(p)
	m := made(t, 0)
	for n, want := range []struct{ pc, inner, outer int }{
		{1, 0, 0}, {0, 1, 0}, {1, 1, 0}, {0, 2, 0}, {1, 2, 0}, {2, 0, 0}, {0, 0, 1},
		{1, 0, 1}, {0, 1, 1}, {1, 1, 1}, {0, 2, 1}, {1, 2, 1}, {2, 0, 1}, {3, 0, 0},
	} {
		was := apart(f)
		g, k := frame.Step(f, p, m, region{Len: 1})
		if k != frame.Went || !same(g, api.Frame{PC: want.pc, Turns: []int{0, want.inner, want.outer, 0}}) {
			t.Fatalf("step %d: %d, %v, not %v", n, k, g, want)
		}
		if !same(f, was) || shares(f.Turns, g.Turns) {
			t.Fatalf("step %d: the frame that was handed in has changed, or is shared", n)
		}
		f = g
	}
	if g, k := frame.Step(f, p, m, region{Len: 1}); k != frame.Ended || !same(g, f) || m.Steps() != 0 {
		t.Errorf("at the end: %d, %v", k, g)
	}
	last := api.Frame{PC: 1, Turns: []int{0, 255, 0}}
	if g, _ := frame.Step(last, []instr{nop, back(0, 255), done}, m, region{Len: 1}); !same(g, api.Frame{PC: 2, Turns: make([]int, 3)}) {
		t.Errorf("behind 255 turns: %v", g)
	}
}

// P13.3: calls, and done: nothing is changed.
func TestCalledAndEnded(t *testing.T) {
	for op, want := range map[int]int{api.Read: frame.Called, api.Write: frame.Called, api.Put: frame.Called, api.Take: frame.Called, api.Done: frame.Ended} {
		i := instr{Op: op}
		if op != api.Done {
			i = instr{Op: op, A: 1, B: 2, N: 3}
		}
		p := []instr{nop, i, back(0, 4), done}
		f := api.Frame{PC: 1, Regs: regs{9, 8, 7}, Turns: []int{0, 0, 3, 0}}
		m := made(t, 5, 6)
		g, k := frame.Step(f, p, m, region{Len: 2})
		if k != want || !same(f, g) || shares(f.Turns, g.Turns) || m.Steps() != 0 || !slices.Equal(look(m), []uint32{5, 6}) {
			t.Errorf("kind %d: %d, %v", op, k, g)
		}
	}
}

// off holds what Step, and Run, tell of what has no step.
func off(t *testing.T, f api.Frame, p []instr, m *mem.Mem, own region) {
	t.Helper()
	was, words := apart(f), look(m)
	g, k := frame.Step(f, p, m, own)
	if k != frame.Off || !same(g, was) || shares(f.Turns, g.Turns) {
		t.Errorf("Step of %v in %v: %d, %v", was, own, k, g)
	}
	for most, want := range map[int]int{math.MinInt: frame.Went, -1: frame.Went, 0: frame.Went, 1: frame.Off, 2: frame.Off, math.MaxInt: frame.Off} {
		h, n, k := frame.Run(f, p, m, own, most)
		if k != want || n != 0 || !same(h, was) || shares(f.Turns, h.Turns) {
			t.Errorf("Run of %d steps of %v in %v: %d, %d, %v", most, was, own, k, n, h)
		}
	}
	if !same(f, was) || m.Steps() != 0 || !slices.Equal(look(m), words) {
		t.Errorf("Step of %v in %v has changed something", was, own)
	}
}

// P13.3, P13.4: what has no step: frames that are not right, and own words that are not there.
func TestOff(t *testing.T) {
	p := []instr{{Op: api.Store}, {Op: api.Store}, back(0, 2), {Op: api.Read}, done}
	right := frame.Start(p)
	all := region{Len: 3}
	for _, f := range []api.Frame{
		{PC: -1, Turns: make([]int, 5)}, {PC: 5, Turns: make([]int, 5)}, {PC: math.MinInt, Turns: make([]int, 5)}, {PC: math.MaxInt, Turns: make([]int, 5)},
		{}, {Turns: make([]int, 4)}, {Turns: make([]int, 6)}, {Turns: []int{0, 0, 3, 0, 0}}, {Turns: []int{0, 0, -1, 0, 0}}, {Turns: []int{1, 0, 0, 0, 0}},
	} {
		f.Regs[3] = 7
		off(t, f, p, made(t, 1, 2, 3), all)
	}
	for _, own := range []region{
		{}, {At: 1}, {Len: -1}, {At: -1, Len: 2}, {Len: 4}, {At: 1, Len: 3}, {At: 3, Len: 1}, {At: 4, Len: 1}, {At: 3},
		{At: math.MaxInt, Len: 1}, {At: 1, Len: math.MaxInt}, {At: math.MinInt, Len: 3}, {At: math.MaxInt, Len: math.MaxInt}, {Len: math.MinInt},
	} {
		for pc := range p { // also at a call, and at done
			f := apart(right)
			f.PC = pc
			off(t, f, p, made(t, 1, 2, 3), own)
			off(t, f, p, nil, own)
		}
	}
	off(t, right, p, nil, all)
	off(t, right, p, made(t), region{Len: 1})
	off(t, right, p, made(t), region{})
	for _, p := range wrong {
		off(t, frame.Start(p), p, made(t, 1, 2, 3), all)
	}
}

// P13.4: behind a call, with how it ended; all others stay.
func TestPass(t *testing.T) {
	p := []instr{{Op: api.Read, A: 7}, {Op: api.Write, A: 1}, {Op: api.Put, A: 2}, {Op: api.Take, A: 3}, nop, {Op: api.Set}, {Op: api.Load}, {Op: api.Cas}, zero(0, 9), jump(10), back(0, 9), done}
	for pc := range p {
		for _, code := range []uint32{0, 1, 3, math.MaxUint32} {
			f := api.Frame{PC: pc, Regs: regs{9, 9, 9, 9, 9, 9, 9, 9}, Turns: make([]int, len(p))}
			f.Turns[10] = 4
			want := apart(f)
			if pc < 4 {
				want.PC++
				want.Regs[p[pc].A] = code
			}
			g, ok := frame.Pass(f, p, code)
			if ok != (pc < 4) || !same(g, want) || shares(f.Turns, g.Turns) || f.PC != pc || f.Regs[1] != 9 {
				t.Errorf("Pass at %d: %v, %v", pc, g, ok)
			}
		}
	}
	for _, f := range []api.Frame{{}, {PC: -1, Turns: make([]int, len(p))}, {PC: len(p), Turns: make([]int, len(p))}, {Turns: []int{1, 0, 0, 0, 0, 0, 0, 0, 0, 0, 0, 0}}, {Turns: make([]int, 3)}} {
		if g, ok := frame.Pass(f, p, 1); ok || !same(f, g) || shares(f.Turns, g.Turns) {
			t.Errorf("Pass of %v: %v, %v", f, g, ok)
		}
	}
	for _, p := range append(wrong, []instr{{Op: api.Read}}, []instr{{Op: api.Read, C: 1}, done}) {
		f := frame.Start(p)
		if g, ok := frame.Pass(f, p, 1); ok || !same(f, g) {
			t.Errorf("Pass through %v: %v, %v", p, g, ok)
		}
	}
}

// P13.4: how far a run goes.
func TestRun(t *testing.T) {
	p := []instr{nop, back(0, 2), {Op: api.Take, A: 5}, {Op: api.Set, A: 1, N: 6}, done}
	m := made(t, 0)
	own := region{Len: 1}
	for most := -2; most < 12; most++ {
		f := frame.Start(p)
		g, n, k := frame.Run(f, p, m, own, most)
		steps, want := min(max(most, 0), 6), frame.Went
		if most > 6 {
			want = frame.Called
		}
		if n != steps || k != want || g.PC != []int{0, 1, 0, 1, 0, 1, 2}[steps] || shares(f.Turns, g.Turns) || !same(f, frame.Start(p)) {
			t.Errorf("Run of %d: %v, %d, %d", most, g, n, k)
		}
	}
	g, n, k := frame.Run(frame.Start(p), p, m, own, math.MaxInt)
	if n != 6 || k != frame.Called {
		t.Errorf("Run: %d, %d", n, k)
	}
	g, _ = frame.Pass(g, p, api.Empty)
	if g, n, k = frame.Run(g, p, m, own, math.MaxInt); n != 1 || k != frame.Ended || g.Regs != (regs{0, 6, 0, 0, 0, api.Empty}) || g.PC != 4 {
		t.Errorf("behind the call: %v, %d, %d", g, n, k)
	}
	if g, n, k = frame.Run(g, p, m, own, math.MinInt); n != 0 || k != frame.Went || g.PC != 4 {
		t.Errorf("no step: %v, %d, %d", g, n, k)
	}
}

// programs goes through programs that may be, made by a rule, the same in each run.
func programs(yield func([]instr) bool) {
	seed := uint32(7)
	next := func(n int) int {
		seed = seed*1664525 + 1013904223
		return int(seed>>8) % n
	}
	for made := 0; made < 3000; {
		n := 3 + next(10)
		p := make([]instr, n)
		for at := range n - 1 {
			a, b, c := next(8), next(8), next(8)
			switch op := next(19); op {
			case api.Jump:
				p[at] = jump(min(at+1+next(3), n-1))
			case api.Zero:
				p[at] = zero(a, min(at+1+next(3), n-1))
			case api.Back, 17:
				p[at] = back(max(at-1-next(4), 0), 1+next(3))
			case 18:
				p[at] = instr{Op: api.Read + next(4), A: a, B: b}
			case api.Nop:
			case api.Set:
				p[at] = instr{Op: op, A: a, N: seed}
			case api.Move:
				p[at] = instr{Op: op, A: a, B: b}
			case api.Load, api.Store:
				p[at] = instr{Op: op, A: a, B: b, N: seed}
			case api.Cas:
				p[at] = instr{Op: op, A: a, B: b, C: c, N: seed % 9}
			default:
				p[at] = instr{Op: op, A: a, B: b, C: c}
			}
		}
		p[n-1] = done
		if _, e := flow.Check(p); e != api.OK {
			continue
		}
		made++
		if !yield(p) {
			return
		}
	}
}

// after is what P13.3 says of a step that goes on, on a frame and words that may be changed.
func after(f *api.Frame, i instr, own []uint32) {
	r := &f.Regs
	at := uint64(r[i.B]+i.N) % uint64(len(own))
	to := f.PC + 1
	switch i.Op {
	case api.Set:
		r[i.A] = i.N
	case api.Move:
		r[i.A] = r[i.B]
	case api.Load:
		r[i.A] = own[at]
	case api.Store:
		own[at] = r[i.A]
	case api.Cas:
		if own[at] == r[i.A] {
			own[at], r[i.A] = r[i.C], 1
		} else {
			r[i.A] = 0
		}
	case api.Jump:
		to = int(i.N)
	case api.Zero:
		if r[i.A] == 0 {
			to = int(i.N)
		}
	case api.Back:
		if f.Turns[f.PC]++; f.Turns[f.PC] <= i.C {
			to = int(i.N)
		} else {
			f.Turns[f.PC] = 0
		}
	default:
		if w, ok := alu.Do(i.Op, r[i.B], r[i.C]); ok {
			r[i.A] = w
		}
	}
	f.PC = to
}

// P13.3 to P13.5: many programs, step by step, and as runs.
func TestPrograms(t *testing.T) {
	kinds := map[int]int{}
	for p := range programs {
		words := []uint32{50, 51, 0, 1, 2, 3, 56, 57}
		own := region{At: 2, Len: 4}
		dearest, _ := cost.Most(p, cost.Ones(p))
		m, again := made(t, words...), made(t, words...)
		f := frame.Start(p)
		went := 0
		for ; ; went++ {
			want, steps := apart(f), m.Steps()
			g, k := frame.Step(f, p, m, own)
			if !frame.Right(g, p) || k == frame.Off || went >= dearest {
				t.Fatalf("%v: %v, %d, behind %d steps of at most %d", p, g, k, went, dearest)
			}
			kinds[k]++
			if k != frame.Went {
				if !same(f, g) || m.Steps() != steps {
					t.Fatalf("%v: %v, %d", p, g, k)
				}
				break
			}
			after(&want, p[f.PC], words[2:6])
			if !same(g, want) || !slices.Equal(look(m), words) || g.PC == f.PC || m.Steps() > steps+1 {
				t.Fatalf("%v at %d: %v, %v, not %v, %v", p, f.PC, g, look(m), want, words)
			}
			f = g
		}
		run, n, k := frame.Run(frame.Start(p), p, again, own, dearest)
		_, end := frame.Step(f, p, m, own)
		if !same(run, f) || n != went || k != end || !slices.Equal(look(again), words) || again.Steps() != m.Steps() {
			t.Fatalf("Run of %v: %v, %d, %d, not %v, %d, %d", p, run, n, k, f, went, end)
		}
	}
	if kinds[frame.Went] < 10000 || kinds[frame.Called] < 300 || kinds[frame.Ended] < 300 {
		t.Errorf("what became of steps: %v", kinds)
	}
}

// The chapter's numbers of what becomes of a step.
func TestNumbers(t *testing.T) {
	if frame.Went != 0 || frame.Called != 1 || frame.Ended != 2 || frame.Off != 3 {
		t.Error("what becomes of a step")
	}
}

// The chapter's example.
func TestExample(t *testing.T) {
	p := []instr{{Op: api.Set, A: 1, N: 5}, {Op: api.Store, A: 1}, done}
	m := made(t, 0, 0)
	f, n, k := frame.Run(frame.Start(p), p, m, region{At: 1, Len: 1}, 9)
	if f.PC != 2 || n != 2 || k != frame.Ended || !slices.Equal(look(m), []uint32{0, 5}) {
		t.Errorf("%v, %d, %d, %v", f, n, k, look(m))
	}
}
