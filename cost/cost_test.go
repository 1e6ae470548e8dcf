package cost_test

import (
	"math"
	"slices"
	"testing"

	"coxswain/api"
	"coxswain/cost"
	"coxswain/flow"
	"coxswain/paths"
)

type instr = api.Instr

// The instructions of the tests' programs.
var (
	nop  = instr{}
	done = instr{Op: api.Done}
)

func jump(n int) instr    { return instr{Op: api.Jump, N: uint32(n)} }
func zero(n int) instr    { return instr{Op: api.Zero, A: 1, N: uint32(n)} }
func back(n, c int) instr { return instr{Op: api.Back, C: c, N: uint32(n)} }

// small goes through all small programs that may be: so many instructions, and done.
func small(n int) func(yield func([]instr) bool) {
	letters := []instr{nop, done}
	for to := range n + 1 {
		letters = append(letters, jump(to), zero(to), back(to, 1), back(to, 2))
	}
	return func(yield func([]instr) bool) {
		p := append(make([]instr, n), done)
		var fill func(at int) bool
		fill = func(at int) bool {
			if _, e := flow.Check(p); at == n {
				return e != api.OK || yield(p)
			}
			for _, i := range letters {
				p[at] = i
				if !fill(at + 1) {
					return false
				}
			}
			return true
		}
		fill(0)
	}
}

// walks is all walks through a program, choice by choice; false, if there are more than so many.
func walks(p []instr, most int) ([][]int, bool) {
	var all [][]int
	var choose []bool
	for len(all) < most {
		l, _ := paths.Walk(p, choose, math.MaxInt)
		all = append(all, l)
		zeros := 0
		for _, at := range l {
			if p[at].Op == api.Zero {
				zeros++
			}
		}
		for len(choose) < zeros {
			choose = append(choose, false)
		}
		last := len(choose) - 1
		for last >= 0 && choose[last] {
			last--
		}
		if last < 0 {
			return all, true
		}
		choose = append(slices.Clone(choose[:last]), true)
	}
	return nil, false
}

// weighed is what a walk weighs, place by place.
func weighed(w []int, walk []int) int {
	n := 0
	for _, at := range walk {
		n = min(n+min(max(w[at], 0), api.Top), api.Top)
	}
	return n
}

// weights are some weights of up to 5 places: small ones, such that are brought within bounds, and great ones.
var weights = [][]int{
	{1, 1, 1, 1, 1},
	{1, 10, 100, 1000, 10000},
	{7, 0, 3, 0, 1},
	{0, 0, 0, 0, 0},
	{-1, 5, math.MinInt, 2, -7},
	{-1, -1, -1, -1, -1},
	{9, 8, 1, 0, 30},
	{1, math.MaxInt, 2, 3, 4},
	{3, 2, api.Top, 1, 0},
	{api.Top - 4, 1, 2, 3, 1},
	{api.Top / 2, api.Top / 3, api.Top / 4, 1, 2},
}

// P12.2 to P12.4: the dearest, and the cheapest, of all walks through all small programs.
func TestSmallPrograms(t *testing.T) {
	programs, unlike := 0, 0
	for n := range 5 {
		for p := range small(n) {
			all, ok := walks(p, 2000)
			if !ok {
				continue
			}
			programs++
			for _, w := range weights {
				if holds(t, p, w[:n+1], all) {
					unlike++
				}
			}
		}
	}
	if programs < 2000 || unlike < 2000 {
		t.Errorf("%d programs, %d times unlike weights", programs, unlike)
	}
}

// holds holds a program to P12.3, and tells whether its walks weigh otherwise.
func holds(t *testing.T, p []instr, w []int, all [][]int) bool {
	t.Helper()
	dear, cheap := 0, math.MaxInt
	for _, l := range all {
		n := weighed(w, l)
		if cost.Of(w, l) != n {
			t.Fatalf("Of(%v, %v): %d, not %d", w, l, cost.Of(w, l), n)
		}
		dear, cheap = max(dear, n), min(cheap, n)
	}
	was := slices.Clone(w)
	if n, e := cost.Most(p, w); n != dear || e != api.OK {
		t.Fatalf("Most(%v, %v): %d, %d, not %d", p, w, n, e, dear)
	}
	if n, e := cost.Least(p, w); n != cheap || e != api.OK {
		t.Fatalf("Least(%v, %v): %d, %d, not %d", p, w, n, e, cheap)
	}
	if !slices.Equal(w, was) {
		t.Fatalf("%v has changed", was)
	}
	return dear != cheap
}

// P12.3: the error that Check tells comes first; then that of how many weights there are.
func TestErrors(t *testing.T) {
	for _, c := range []struct {
		p []instr
		w []int
		e api.Errno
	}{
		{nil, nil, api.ErrArg},
		{nil, []int{1}, api.ErrArg},
		{make([]instr, 65), make([]int, 65), api.ErrArg},
		{[]instr{{Op: 22}, done}, []int{1, 1}, api.ErrForm},
		{[]instr{{Op: 22}, done}, nil, api.ErrForm},
		{[]instr{nop}, []int{1}, api.ErrFlow},
		{[]instr{jump(0), done}, []int{1}, api.ErrFlow},
		{[]instr{zero(2), nop, nop, back(1, 1), done}, []int{1, 1, 1, 1, 1}, api.ErrLoop},
		{[]instr{zero(2), nop, nop, back(1, 1), done}, nil, api.ErrLoop},
		{[]instr{done}, nil, api.ErrArg},
		{[]instr{done}, []int{}, api.ErrArg},
		{[]instr{done}, []int{1, 1}, api.ErrArg},
		{[]instr{nop, back(0, 3), done}, []int{1, 1}, api.ErrArg},
		{[]instr{nop, back(0, 3), done}, make([]int, 100000), api.ErrArg},
	} {
		if n, e := cost.Most(c.p, c.w); n != 0 || e != c.e {
			t.Errorf("Most(%v): %d, %d, not %d", c.p, n, e, c.e)
		}
		if n, e := cost.Least(c.p, c.w); n != 0 || e != c.e {
			t.Errorf("Least(%v): %d, %d, not %d", c.p, n, e, c.e)
		}
	}
}

// P12.3: some programs, written out, the example ahead.
func TestOfPrograms(t *testing.T) {
	nest := []instr{nop}
	for range 62 {
		nest = append(nest, back(0, 255))
	}
	nest = append(nest, done)
	for _, c := range []struct {
		p           []instr
		w           []int
		most, least int
	}{
		{[]instr{zero(2), nop, done}, []int{1, 5, 1}, 7, 2},
		{[]instr{nop, back(0, 3), done}, []int{1, 1, 1}, 9, 9},
		{[]instr{nop, back(0, 3), done}, []int{10, 100, 1000}, 1440, 1440},
		{[]instr{done}, []int{-5}, 0, 0},
		{[]instr{done}, []int{math.MaxInt}, api.Top, api.Top},
		{[]instr{zero(2), done, back(0, 255), done}, []int{1, 10, 100, 1000}, 256*101 + 1000, 11},     // ended at once, or not at all
		{[]instr{zero(2), done, back(0, 255), done}, []int{1, 50000, 100, 1}, 255*101 + 50001, 25857}, // or in the last round
		{[]instr{jump(4), nop, nop, back(1, 255), done}, []int{1, 9, 9, 9, 1}, 2, 2},
		{[]instr{nop, done, back(0, 255), done}, []int{1, 2, 4, 8}, 3, 3},
		{nest, cost.Ones(nest), api.Top, api.Top},
		{nest, make([]int, 64), 0, 0},
	} {
		most, e := cost.Most(c.p, c.w)
		least, f := cost.Least(c.p, c.w)
		if most != c.most || least != c.least || e != api.OK || f != api.OK {
			t.Errorf("%v of %v: Most %d, %d, Least %d, %d, not %d, %d", c.p, c.w, most, e, least, f, c.most, c.least)
		}
	}
}

// P12.4: with weights that are no less nothing weighs less.
func TestNoLess(t *testing.T) {
	for p := range small(4) {
		for n, w := range weights[:6] {
			for at := range w {
				more := slices.Clone(w)
				more[at] += 1 + 3*n
				a, _ := cost.Most(p, w)
				b, _ := cost.Most(p, more)
				c, _ := cost.Least(p, w)
				d, _ := cost.Least(p, more)
				if b < a || d < c || c > a {
					t.Fatalf("%v of %v and %v: Most %d, %d, Least %d, %d", p, w, more, a, b, c, d)
				}
			}
		}
	}
}

// P12.2: what places weigh together; a place that is not there weighs 0.
func TestOf(t *testing.T) {
	w := []int{1, 20, -300, 4000}
	for _, c := range []struct {
		w, walk []int
		want    int
	}{
		{w, nil, 0},
		{w, []int{0}, 1},
		{w, []int{0, 1, 1, 3}, 4041},
		{w, []int{2, 2, 0}, 1},
		{w, []int{-1, 0, 4, 64, math.MinInt, math.MaxInt, 1 << 32}, 1},
		{nil, []int{0, 1}, 0},
		{[]int{api.Top - 1}, []int{0}, api.Top - 1},
		{[]int{api.Top - 1, 1}, []int{0, 1}, api.Top},
		{[]int{api.Top - 1, 2, -9}, []int{0, 1, 2}, api.Top},
		{[]int{math.MaxInt}, []int{0, 0, 0}, api.Top},
		{[]int{math.MinInt, 7}, []int{1, 0, 1}, 14},
	} {
		if n := cost.Of(c.w, c.walk); n != c.want {
			t.Errorf("Of(%v, %v): %d, not %d", c.w, c.walk, n, c.want)
		}
	}
	if n := cost.Of([]int{1 << 30}, make([]int, 5000)); n != api.Top {
		t.Errorf("Of many: %d", n)
	}
}

// P12.2: for each instruction 1, whatever they are; each answer is new.
func TestOnes(t *testing.T) {
	for _, n := range []int{0, 1, 3, 64, 65, 1000} {
		p := slices.Repeat([]instr{{Op: 99}}, n)
		l := cost.Ones(p)
		if !slices.Equal(l, slices.Repeat([]int{1}, n)) {
			t.Errorf("Ones of %d: %v", n, l)
		}
		if n > 0 {
			l[0] = 5
			if cost.Ones(p)[0] != 1 {
				t.Error("an answer is shared")
			}
		}
	}
	if len(cost.Ones(nil)) != 0 {
		t.Error("Ones of none")
	}
}
