package paths_test

import (
	"fmt"
	"math"
	"slices"
	"testing"

	"coxswain/api"
	"coxswain/flow"
	"coxswain/paths"
)

type instr = api.Instr

// The instructions of the tests' programs.
var (
	nop  = instr{}
	done = instr{Op: api.Done}
)

func jump(n int) instr    { return instr{Op: api.Jump, N: uint32(n)} }
func zero(n int) instr    { return instr{Op: api.Zero, A: 1, N: uint32(n)} }
func back(n, c int) instr { return instr{Op: api.Back, C: c, N: uint32(n)} }

// wrong are programs of which Check says no OK.
var wrong = [][]instr{
	nil, {}, {nop}, {done, nop}, {jump(0), done}, {jump(2), done}, {zero(5), done}, {back(0, 1), done}, {nop, back(0, 256), done},
	{nop, nop, back(0, 1), back(1, 1), done}, {zero(2), nop, nop, back(1, 1), done}, make([]instr, 1000), slices.Repeat([]instr{done}, 65),
}

// small goes through all small programs that may be: so many instructions, and done.
func small(n int) func(yield func([]instr) bool) {
	letters := []instr{nop, done, {Op: api.Read}}
	for to := range n + 1 {
		letters = append(letters, jump(to), zero(to), back(to, 1), back(to, 3))
	}
	return func(yield func([]instr) bool) {
		p := append(make([]instr, n), done)
		var fill func(at int) bool
		fill = func(at int) bool {
			if _, e := flow.Check(p); at == n {
				return e != api.OK || yield(p)
			}
			for _, i := range letters {
				p[at] = i
				if !fill(at + 1) {
					return false
				}
			}
			return true
		}
		fill(0)
	}
}

// walk is a walk, and the choices that were taken on it.
type walk struct {
	places []int
	choose []bool
}

// search goes through all ways by words of its own: how often a Back led back is forgotten whenever one comes into its loop from outside.
type search struct {
	p     []instr
	turns map[int]int
	at    walk
	found []walk
}

// come goes on at a place, to which one comes from another one; false, if there are too many walks.
func (s *search) come(from, to int) bool {
	was := map[int]int{}
	for b, i := range s.p {
		first := int(i.N)
		if i.Op == api.Back && to >= first && to <= b && (from < first || from > b) {
			was[b], s.turns[b] = s.turns[b], 0
		}
	}
	s.at.places = append(s.at.places, to)
	ok := s.from(to)
	s.at.places = s.at.places[:len(s.at.places)-1]
	for b, n := range was {
		s.turns[b] = n
	}
	return ok
}

func (s *search) from(at int) bool {
	i := s.p[at]
	switch i.Op {
	case api.Done:
		s.found = append(s.found, walk{slices.Clone(s.at.places), slices.Clone(s.at.choose)})
		return len(s.found) < 3000
	case api.Jump:
		return s.come(at, int(i.N))
	case api.Zero:
		s.at.choose = append(s.at.choose, true)
		ok := s.come(at, int(i.N))
		s.at.choose[len(s.at.choose)-1] = false
		ok = ok && s.come(at, at+1)
		s.at.choose = s.at.choose[:len(s.at.choose)-1]
		return ok
	case api.Back:
		if s.turns[at] < i.C {
			s.turns[at]++
			ok := s.come(at, int(i.N))
			s.turns[at]--
			return ok
		}
	}
	return s.come(at, at+1)
}

// everyWalk is all walks; none of a program that has too many.
func everyWalk(p []instr) []walk {
	s := search{p: p, turns: map[int]int{}}
	if !s.come(-1, 0) {
		return nil
	}
	return s.found
}

// P11.2 to P11.4: all walks through all small programs.
func TestSmallPrograms(t *testing.T) {
	programs, many := 0, 0
	for n := range 5 {
		for p := range small(n) {
			all := everyWalk(p)
			if all == nil {
				continue
			}
			programs++
			unlike := map[string]bool{}
			for _, w := range all {
				unlike[fmt.Sprint(w.places)] = true
			}
			for _, w := range all[:min(len(all), 40)] {
				holds(t, p, w)
			}
			if c := paths.Count(p); c != len(unlike) {
				t.Fatalf("Count(%v): %d, not %d", p, c, len(unlike))
			}
			if len(unlike) > 1 {
				many++
			}
		}
	}
	if programs < 5000 || many < 1000 {
		t.Errorf("%d programs, %d of several walks", programs, many)
	}
}

// holds holds a walk to P11.2, and P11.4.
func holds(t *testing.T, p []instr, w walk) {
	t.Helper()
	l, ok := paths.Walk(p, w.choose, len(w.places))
	if !ok || !slices.Equal(l, w.places) {
		t.Fatalf("Walk(%v, %v): %v, %v, not %v", p, w.choose, l, ok, w.places)
	}
	if p[l[len(l)-1]].Op != api.Done {
		t.Fatalf("Walk(%v, %v) ends elsewhere: %v", p, w.choose, l)
	}
	less := len(w.places) - 1
	if l, ok := paths.Walk(p, w.choose, less); ok || !slices.Equal(l, w.places[:less]) {
		t.Fatalf("Walk(%v, %v, %d): %v, %v", p, w.choose, less, l, ok)
	}
	come := make([]int, len(p))
	for _, at := range w.places {
		come[at]++
	}
	for at, n := range come {
		if n > paths.Often(p, at) {
			t.Fatalf("%v: %d times at %d, and Often %d", p, n, at, paths.Often(p, at))
		}
	}
}

// P11.1: of programs that may not be.
func TestWrongPrograms(t *testing.T) {
	for _, p := range wrong {
		for _, most := range []int{math.MinInt, -1, 0, 1, 100, math.MaxInt} {
			if l, ok := paths.Walk(p, []bool{true}, most); len(l) != 0 || ok {
				t.Errorf("Walk of %d instructions: %v, %v", len(p), l, ok)
			}
		}
		if paths.Count(p) != 0 {
			t.Errorf("Count of %d instructions: %d", len(p), paths.Count(p))
		}
		for _, pc := range []int{math.MinInt, -1, 0, 1, math.MaxInt} {
			if paths.Often(p, pc) != 0 {
				t.Errorf("Often of %d instructions: %d", len(p), paths.Often(p, pc))
			}
		}
	}
}

// P11.2: the example, at all lengths.
func TestExample(t *testing.T) {
	p := []instr{nop, back(0, 3), done}
	want := []int{0, 1, 0, 1, 0, 1, 0, 1, 2}
	for most := -3; most < 13; most++ {
		l, ok := paths.Walk(p, nil, most)
		if ok != (most >= 9) || !slices.Equal(l, want[:min(max(most, 0), 9)]) {
			t.Errorf("Walk of at most %d: %v, %v", most, l, ok)
		}
	}
	for _, most := range []int{math.MinInt, math.MaxInt} {
		if l, ok := paths.Walk(p, nil, most); ok != (most > 0) || ok && !slices.Equal(l, want) || !ok && len(l) != 0 {
			t.Errorf("Walk of at most %d: %v, %v", most, l, ok)
		}
	}
	if paths.Count(p) != 1 {
		t.Errorf("Count: %d", paths.Count(p))
	}
}

// P11.2: choices: one for each Zero that is come to, those that are missing false, those that are left over not looked at.
func TestChoices(t *testing.T) {
	p := []instr{zero(1), zero(3), nop, back(0, 1), zero(6), nop, done}
	for _, c := range []struct {
		choose []bool
		want   []int
	}{
		{nil, []int{0, 1, 2, 3, 0, 1, 2, 3, 4, 5, 6}},
		{[]bool{}, []int{0, 1, 2, 3, 0, 1, 2, 3, 4, 5, 6}},
		{[]bool{true}, []int{0, 1, 2, 3, 0, 1, 2, 3, 4, 5, 6}}, // a Zero that leads to the next place takes a choice, too
		{[]bool{false, true}, []int{0, 1, 3, 0, 1, 2, 3, 4, 5, 6}},
		{[]bool{true, true, true, true}, []int{0, 1, 3, 0, 1, 3, 4, 5, 6}},
		{[]bool{true, false, true, true, true}, []int{0, 1, 2, 3, 0, 1, 3, 4, 6}},
		{[]bool{true, false, true, true, true, true, false}, []int{0, 1, 2, 3, 0, 1, 3, 4, 6}},
		{slices.Repeat([]bool{true}, 10000), []int{0, 1, 3, 0, 1, 3, 4, 6}},
	} {
		was := slices.Clone(c.choose)
		l, ok := paths.Walk(p, c.choose, 99)
		if !ok || !slices.Equal(l, c.want) || !slices.Equal(c.choose, was) {
			t.Errorf("Walk(%v): %v, %v, not %v", was, l, ok, c.want)
		}
	}
	if paths.Count(p) != 8 {
		t.Errorf("Count: %d", paths.Count(p))
	}
}

// forks is a program's beginning, with so many times two ways.
func forks(n int) []instr {
	var p []instr
	for range n {
		p = append(p, zero(len(p)+2), nop)
	}
	return p
}

// nest is a program of so many loops, one in the other, and done.
func nest(n, c int) []instr {
	p := []instr{nop}
	for range n {
		p = append(p, back(0, c))
	}
	return append(p, done)
}

// P11.3: how many walks there are, also where they are too many to be gone.
func TestCount(t *testing.T) {
	looped := func(p []instr, c int) []instr { return append(p, back(0, c), done) }
	for _, c := range []struct {
		p    []instr
		want int
	}{
		{[]instr{done}, 1},
		{[]instr{jump(2), nop, done}, 1},
		{[]instr{zero(1), done}, 1},
		{[]instr{zero(2), nop, done}, 2},
		{[]instr{zero(2), done, done}, 2},
		{append(forks(31), done), 1 << 31},
		{looped(forks(1), 255), api.Top},
		{looped(forks(1), 38), 1 << 39},
		{looped(forks(1), 39), api.Top},
		{looped(forks(13), 2), 1 << 39},
		{looped(forks(20), 1), api.Top},
		{looped(forks(30), 1), api.Top},
		{[]instr{zero(2), done, back(0, 255), done}, 257}, // ended in each of 256 rounds, or not at all
		{[]instr{zero(2), nop, zero(4), done, back(0, 2), done}, 2 + 4 + 8 + 8},
		{[]instr{nop, done, back(0, 255), done}, 1},
		{[]instr{jump(4), zero(3), nop, back(1, 255), done}, 1}, // nobody comes into the loop
		{nest(62, 255), 1},
		{append(forks(1), back(0, 1), back(0, 1), done), 16},
		{append(forks(1), back(0, 1), zero(5), nop, back(0, 1), done), 64},
		{append(append(forks(1), slices.Repeat([]instr{back(0, 255)}, 61)...), done), api.Top},
	} {
		if n := paths.Count(c.p); n != c.want {
			t.Errorf("Count(%v): %d, not %d", c.p, n, c.want)
		}
	}
}

// P11.3: how often one may come to a place.
func TestOften(t *testing.T) {
	p := []instr{nop, nop, back(1, 2), back(0, 3), done, nop, back(5, 255), done}
	for pc, want := range []int{4, 12, 12, 4, 1, 256, 256, 1} {
		if n := paths.Often(p, pc); n != want {
			t.Errorf("Often at %d: %d, not %d", pc, n, want)
		}
	}
	for _, pc := range []int{math.MinInt, -1, 8, 64, 1 << 32, math.MaxInt} {
		if n := paths.Often(p, pc); n != 0 {
			t.Errorf("Often at %d: %d", pc, n)
		}
	}
	for loops, want := range map[int]int{4: 1 << 32, 5: api.Top, 6: api.Top, 62: api.Top} {
		if n := paths.Often(nest(loops, 255), 0); n != want {
			t.Errorf("Often in %d loops: %d", loops, n)
		}
	}
	if n := paths.Often(nest(39, 1), 0); n != 1<<39 {
		t.Errorf("Often in 39 loops: %d", n)
	}
}

// P11.2: of a walk that is far too long just so many places are gone.
func TestLongWalk(t *testing.T) {
	for _, most := range []int{0, 1, 2, 1000, 100000} {
		l, ok := paths.Walk(nest(62, 255), nil, most)
		if ok || len(l) != most {
			t.Errorf("Walk of at most %d: %d, %v", most, len(l), ok)
		}
	}
	if l, ok := paths.Walk(nest(2, 255), nil, math.MaxInt); !ok || len(l) != 2*256*256+256+1 {
		t.Errorf("Walk of two loops: %d, %v", len(l), ok)
	}
}
