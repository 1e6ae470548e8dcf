package flow_test

import (
	"math"
	"math/bits"
	"slices"
	"testing"

	"coxswain/api"
	"coxswain/flow"
	"coxswain/isa"
)

type instr = api.Instr

// The instructions of the tests' programs.
var (
	nop   = instr{}
	done  = instr{Op: api.Done}
	wrong = instr{Op: api.Done, A: 1}
)

func jump(n int) instr    { return instr{Op: api.Jump, N: uint32(n)} }
func zero(n int) instr    { return instr{Op: api.Zero, A: 1, N: uint32(n)} }
func back(n, c int) instr { return instr{Op: api.Back, C: c, N: uint32(n)} }

// alphabet is what may stand in the small programs: all that lead to places from 0 to most, and others.
func alphabet(most int, others ...instr) []instr {
	l := slices.Clone(others)
	for n := range most + 1 {
		l = append(l, jump(n), zero(n), back(n, 2))
	}
	return l
}

// all goes through all programs of so many instructions of an alphabet, with some more behind them.
func all(n int, letters []instr, behind ...instr) func(yield func([]instr) bool) {
	return func(yield func([]instr) bool) {
		p := append(make([]instr, n), behind...)
		var fill func(at int) bool
		fill = func(at int) bool {
			if at == n {
				return yield(p)
			}
			for _, i := range letters {
				p[at] = i
				if !fill(at + 1) {
					return false
				}
			}
			return true
		}
		fill(0)
	}
}

// long goes through longer programs, that are made by a rule, and are the same in each run.
func long(yield func([]instr) bool) {
	seed := uint32(1)
	next := func(n int) int {
		seed = seed*1664525 + 1013904223
		return int(seed>>8) % n
	}
	for range 100000 {
		n := 6 + next(8)
		p := make([]instr, n)
		for at := range n - 1 {
			switch next(7) {
			case 0:
				p[at] = jump(min(at+1+next(4), n-1))
			case 1:
				p[at] = zero(min(at+1+next(4), n-1))
			case 2, 3:
				p[at] = back(max(at-1-next(5), 0), 1+next(2))
			case 4:
				p[at] = []instr{nop, done}[next(2)]
			}
		}
		p[n-1] = done
		if !yield(p) {
			return
		}
	}
}

// mask is the places of a loop, a bit for each.
func mask(from, to int) uint64 {
	var m uint64
	for at := from; at <= to; at++ {
		m |= 1 << at
	}
	return m
}

// backs are the loops of a program, and their places.
func backs(p []instr) ([]api.Span, []uint64) {
	var l []api.Span
	var m []uint64
	for at, i := range p {
		if i.Op == api.Back {
			l, m = append(l, api.Span{From: int(i.N), To: at}), append(m, mask(int(i.N), at))
		}
	}
	return l, m
}

// checked is what P10.2 says, sentence by sentence, of a program of up to 64 instructions.
func checked(p []instr) (int, api.Errno) {
	for at, i := range p {
		if !isa.Right(i) {
			return at, api.ErrForm
		}
	}
	for at, i := range p {
		n := int(i.N)
		if (i.Op == api.Jump || i.Op == api.Zero) && (n >= len(p) || n <= at) || i.Op == api.Back && n >= at {
			return at, api.ErrFlow
		}
	}
	l, m := backs(p)
	for x := range m {
		for y := range x {
			if m[x]&m[y] != 0 && m[x]&^m[y] != 0 && m[y]&^m[x] != 0 {
				return l[x].To, api.ErrLoop
			}
		}
	}
	for at, i := range p {
		for _, x := range m {
			if (i.Op == api.Jump || i.Op == api.Zero) && x>>at&1 != x>>i.N&1 {
				return at, api.ErrLoop
			}
		}
	}
	if p[len(p)-1].Op != api.Done {
		return len(p) - 1, api.ErrFlow
	}
	return 0, api.OK
}

// led is where one may come from a place, a bit for each.
func led(p []instr, at int) uint64 {
	to, on := uint64(1)<<p[at].N, uint64(1)<<(at+1)
	switch p[at].Op {
	case api.Done:
		return 0
	case api.Jump:
		return to
	case api.Zero, api.Back:
		return to | on
	}
	return on
}

// from is all places to which one may come from one, that one, too.
func from(p []instr, at int) uint64 {
	seen := uint64(1) << at
	for {
		more := seen
		for x := range p {
			if seen>>x&1 == 1 {
				more |= led(p, x)
			}
		}
		if more == seen {
			return seen
		}
		seen = more
	}
}

func places(m uint64) []int {
	var l []int
	for m != 0 {
		l = append(l, bits.TrailingZeros64(m))
		m &= m - 1
	}
	return l
}

// holds holds a program to P10.2 to P10.4.
func holds(t *testing.T, p []instr) {
	t.Helper()
	was := slices.Clone(p)
	at, e := flow.Check(p)
	if x, want := checked(p); at != x || e != want {
		t.Fatalf("Check(%v): %d, %d, not %d, %d", p, at, e, x, want)
	}
	if e != api.OK {
		tellsNothing(t, p)
		return
	}
	l, m := backs(p)
	if !slices.Equal(flow.Loops(p), l) {
		t.Fatalf("Loops(%v): %v", p, flow.Loops(p))
	}
	reached := flow.Reached(p)
	if len(reached) != len(p) {
		t.Fatalf("Reached(%v): %v", p, reached)
	}
	all := from(p, 0)
	for pc := -1; pc <= len(p); pc++ {
		depth, inner, found := 0, api.Span{}, false
		for n, x := range m {
			if pc >= 0 && x>>pc&1 == 1 {
				depth++
				if !found || l[n].To-l[n].From < inner.To-inner.From {
					inner, found = l[n], true
				}
			}
		}
		if s, ok := flow.Inner(p, pc); s != inner || ok != found || flow.Depth(p, pc) != depth {
			t.Fatalf("%v at %d: Inner %v, %v, Depth %d", p, pc, s, ok, flow.Depth(p, pc))
		}
		if pc < 0 || pc == len(p) {
			if len(flow.Next(p, pc)) != 0 {
				t.Fatalf("Next(%v, %d): %v", p, pc, flow.Next(p, pc))
			}
			continue
		}
		if !slices.Equal(flow.Next(p, pc), places(led(p, pc))) {
			t.Fatalf("Next(%v, %d): %v", p, pc, flow.Next(p, pc))
		}
		if reached[pc] != (all>>pc&1 == 1) {
			t.Fatalf("Reached(%v): %v", p, reached)
		}
	}
	leads(t, p)
	if !slices.Equal(p, was) {
		t.Fatalf("%v has changed", was)
	}
}

// leads holds a program to P10.4: from where one comes, Done is reached, and loops are come into, and out of, where they may be.
func leads(t *testing.T, p []instr) {
	t.Helper()
	for pc, ok := range flow.Reached(p) {
		isDone := func(x int) bool { return p[x].Op == api.Done }
		if ok && !slices.ContainsFunc(places(from(p, pc)), isDone) {
			t.Fatalf("%v: from %d no Done is reached", p, pc)
		}
		for _, to := range flow.Next(p, pc) {
			for _, l := range flow.Loops(p) {
				within := func(x int) bool { return x >= l.From && x <= l.To }
				if !within(pc) && within(to) && to != l.From || within(pc) && !within(to) && pc != l.To {
					t.Fatalf("%v: from %d to %d", p, pc, to)
				}
			}
		}
	}
}

// tellsNothing holds a program, of which Check says no OK, to P10.3.
func tellsNothing(t *testing.T, p []instr) {
	t.Helper()
	if len(flow.Loops(p)) != 0 || len(flow.Reached(p)) != 0 {
		t.Fatalf("of %d instructions: Loops, Reached", len(p))
	}
	for _, pc := range []int{math.MinInt, -1, 0, 1, 2, len(p) - 1, len(p), math.MaxInt} {
		if s, ok := flow.Inner(p, pc); s != (api.Span{}) || ok || flow.Depth(p, pc) != 0 || len(flow.Next(p, pc)) != 0 {
			t.Fatalf("of %d instructions, at %d: Inner, Depth, Next", len(p), pc)
		}
	}
}

// P10.2 to P10.4: all small programs, right and wrong ones.
func TestSmallPrograms(t *testing.T) {
	for n := 1; n <= 4; n++ {
		for p := range all(n, alphabet(n, nop, done, wrong)) {
			holds(t, p)
		}
	}
	for p := range all(4, alphabet(4, nop, done), done) {
		holds(t, p)
	}
}

// P10.2 to P10.4: longer ones; some of each answer are among them.
func TestLongPrograms(t *testing.T) {
	count := map[api.Errno]int{}
	nested := 0
	for p := range long {
		holds(t, p)
		_, e := flow.Check(p)
		count[e]++
		for pc := range p {
			nested = max(nested, flow.Depth(p, pc))
		}
	}
	if count[api.OK] < 500 || count[api.ErrFlow] < 500 || count[api.ErrLoop] < 500 || nested < 3 {
		t.Errorf("%v, nested %d", count, nested)
	}
}

// P10.2: how many instructions there may be.
func TestHowMany(t *testing.T) {
	for _, p := range [][]instr{nil, {}, slices.Repeat([]instr{done}, 65), slices.Repeat([]instr{wrong}, 65), make([]instr, 100000)} {
		if at, e := flow.Check(p); at != 0 || e != api.ErrArg {
			t.Errorf("Check of %d: %d, %d", len(p), at, e)
		}
		tellsNothing(t, p)
	}
	full := append(make([]instr, 63), done)
	holds(t, full)
	if at, e := flow.Check(full); at != 0 || e != api.OK {
		t.Errorf("Check of 64: %d, %d", at, e)
	}
}

// P10.2: the errors, in their order, written out.
func TestErrors(t *testing.T) {
	for _, c := range []struct {
		p  []instr
		at int
		e  api.Errno
	}{
		{[]instr{done}, 0, api.OK},
		{[]instr{nop}, 0, api.ErrFlow},
		{[]instr{done, nop}, 1, api.ErrFlow},
		{[]instr{wrong}, 0, api.ErrForm},
		{[]instr{jump(0), nop, wrong}, 2, api.ErrForm}, // the form of all is looked at first
		{[]instr{nop, jump(1), done}, 1, api.ErrFlow},
		{[]instr{nop, jump(0), done}, 1, api.ErrFlow},
		{[]instr{nop, jump(2), done}, 0, api.OK},
		{[]instr{nop, jump(3), done}, 1, api.ErrFlow},
		{[]instr{nop, zero(63), done}, 1, api.ErrFlow},
		{[]instr{nop, zero(1), done}, 1, api.ErrFlow},
		{[]instr{nop, zero(2), done}, 0, api.OK},
		{[]instr{back(0, 1), done}, 0, api.ErrFlow},
		{[]instr{nop, back(1, 1), done}, 1, api.ErrFlow},
		{[]instr{nop, back(2, 1), done}, 1, api.ErrFlow},
		{[]instr{nop, back(0, 1), done}, 0, api.OK},
		{[]instr{nop, nop, back(0, 1), back(1, 1), done}, 3, api.ErrLoop}, // overlap
		{[]instr{nop, nop, back(0, 1), back(2, 1), done}, 3, api.ErrLoop}, // just one place in common
		{[]instr{nop, nop, back(1, 1), back(0, 1), done}, 0, api.OK},
		{[]instr{nop, nop, back(0, 1), back(0, 1), done}, 0, api.OK}, // of one first place: they nest
		{[]instr{nop, back(0, 1), nop, back(2, 1), done}, 0, api.OK},
		{[]instr{zero(2), nop, nop, back(1, 1), done}, 0, api.ErrLoop}, // into a loop
		{[]instr{zero(1), nop, nop, back(1, 1), done}, 0, api.ErrLoop}, // also to its first place
		{[]instr{zero(3), nop, nop, back(1, 1), done}, 0, api.ErrLoop}, // and to its Back
		{[]instr{zero(4), nop, nop, back(1, 1), done}, 0, api.OK},
		{[]instr{nop, zero(3), back(0, 1), done}, 1, api.ErrLoop}, // out of a loop
		{[]instr{nop, jump(2), back(0, 1), done}, 0, api.OK},      // within it
		{[]instr{nop, done, back(0, 1), done}, 0, api.OK},
		{[]instr{nop, jump(1), nop, back(3, 1), nop}, 1, api.ErrFlow},
		{[]instr{zero(4), nop, nop, back(1, 1), back(2, 1), done}, 4, api.ErrLoop}, // overlaps come ahead of jumps
		{[]instr{zero(2), nop, nop, back(1, 1), nop}, 0, api.ErrLoop},              // jumps come ahead of the last Done
		{[]instr{nop, nop, nop, back(0, 1), back(1, 1), back(2, 1), done}, 4, api.ErrLoop},
	} {
		if at, e := flow.Check(c.p); at != c.at || e != c.e {
			t.Errorf("Check(%v): %d, %d, not %d, %d", c.p, at, e, c.at, c.e)
		}
		holds(t, c.p)
	}
}

// P10.3: the deepest nest of loops.
func TestDeepest(t *testing.T) {
	p := []instr{nop}
	for range 62 {
		p = append(p, back(0, 255))
	}
	p = append(p, done)
	holds(t, p)
	if flow.Depth(p, 0) != 62 || flow.Depth(p, 62) != 1 || flow.Depth(p, 63) != 0 {
		t.Error("Depth")
	}
	if s, ok := flow.Inner(p, 0); s != (api.Span{From: 0, To: 1}) || !ok {
		t.Errorf("Inner: %v, %v", s, ok)
	}
}

// P10.1, P10.3: the example, places far off, and that nothing is shared.
func TestExample(t *testing.T) {
	p := []instr{nop, back(0, 3), done}
	l := flow.Loops(p)
	if !slices.Equal(l, []api.Span{{From: 0, To: 1}}) {
		t.Errorf("Loops: %v", l)
	}
	for _, pc := range []int{math.MinInt, -1, 3, 64, 1 << 32, math.MaxInt} {
		if _, ok := flow.Inner(p, pc); ok || flow.Depth(p, pc) != 0 || len(flow.Next(p, pc)) != 0 {
			t.Errorf("at %d", pc)
		}
	}
	l[0].From = 7
	next := flow.Next(p, 1)
	next[0] = 9
	reached := flow.Reached(p)
	reached[0] = false
	if !slices.Equal(flow.Loops(p), []api.Span{{From: 0, To: 1}}) || !slices.Equal(flow.Next(p, 1), []int{0, 2}) || !slices.Equal(flow.Reached(p), []bool{true, true, true}) {
		t.Error("an answer is shared")
	}
}

// P10.3: places to which nobody comes.
func TestReached(t *testing.T) {
	p := []instr{jump(3), nop, back(1, 2), zero(5), done, nop, done, nop, done}
	holds(t, p)
	if l := flow.Reached(p); !slices.Equal(l, []bool{true, false, false, true, true, true, true, false, false}) {
		t.Errorf("Reached: %v", l)
	}
}
