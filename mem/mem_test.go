package mem_test

import (
	"math"
	"slices"
	"testing"

	"coxswain/api"
	"coxswain/mem"
)

type region = api.Region

// span is the region of so many words from a place on.
func span(at, n int) region { return region{At: at, Len: n} }

// made is a memory of these words.
func made(t *testing.T, words ...uint32) *mem.Mem {
	t.Helper()
	m, e := mem.New(len(words))
	if e != api.OK || m.Fill(0, words) != api.OK {
		t.Fatal("a memory cannot be made")
	}
	return m
}

// holds tells whether a memory has these words, and so many steps.
func holds(m *mem.Mem, steps int, words ...uint32) bool {
	l, e := m.Look(region{Len: m.Len()})
	return e == api.OK && m.Steps() == steps && slices.Equal(l, words)
}

// P6.1: a nil memory has no words.
func TestNilMemory(t *testing.T) {
	var m *mem.Mem
	if m.Len() != 0 || m.Steps() != 0 || m.Clone() != nil {
		t.Error("Len, Steps, Clone")
	}
	for _, at := range []int{-1, 0, 1} {
		if w, e := m.Read(at); w != 0 || e != api.ErrArg {
			t.Error("Read")
		}
		if m.Write(at, 1) != api.ErrArg {
			t.Error("Write")
		}
		if ok, e := m.Cas(at, 0, 1); ok || e != api.ErrArg {
			t.Error("Cas")
		}
		if l, e := m.Look(region{At: at}); len(l) != 0 || e != api.ErrArg {
			t.Error("Look")
		}
		if m.Fill(at, nil) != api.ErrArg || m.Fill(at, []uint32{1}) != api.ErrArg {
			t.Error("Fill")
		}
	}
}

// P6.2: how many words a memory may have; they are all 0.
func TestNew(t *testing.T) {
	for _, size := range []int{math.MinInt, -1, api.MaxWords + 1, math.MaxInt} {
		if m, e := mem.New(size); m != nil || e != api.ErrArg {
			t.Errorf("New of %d: %d", size, e)
		}
	}
	for _, size := range []int{0, 1, 2, api.MaxWords} {
		m, e := mem.New(size)
		if e != api.OK || m.Len() != size || !holds(m, 0, make([]uint32, size)...) {
			t.Errorf("New of %d: %d", size, e)
		}
	}
}

// P6.2, P6.5: each step at each place; the other words stay.
func TestSteps(t *testing.T) {
	for at := range 3 {
		words := []uint32{10, 20, 30}
		m := made(t, words...)
		if w, e := m.Read(at); w != words[at] || e != api.OK || !holds(m, 1, words...) {
			t.Errorf("Read of %d: %d, %d", at, w, e)
		}
		if ok, e := m.Cas(at, words[at]+1, 5); ok || e != api.OK || !holds(m, 2, words...) {
			t.Errorf("Cas of %d, that is otherwise: %v, %d", at, ok, e)
		}
		was := words[at]
		words[at] = math.MaxUint32
		if ok, e := m.Cas(at, was, math.MaxUint32); !ok || e != api.OK || !holds(m, 3, words...) {
			t.Errorf("Cas of %d: %v, %d", at, ok, e)
		}
		if ok, e := m.Cas(at, was, 4); ok || e != api.OK || !holds(m, 4, words...) {
			t.Errorf("Cas of %d, once more: %v, %d", at, ok, e)
		}
		words[at] = 77
		if e := m.Write(at, 77); e != api.OK || !holds(m, 5, words...) {
			t.Errorf("Write of %d: %d", at, e)
		}
		if ok, e := m.Cas(at, 77, 77); !ok || e != api.OK || !holds(m, 6, words...) {
			t.Errorf("Cas of %d to what it is: %v, %d", at, ok, e)
		}
	}
}

// P6.2: where there is no such place, nothing is changed, and no step is made.
func TestNoSuchPlace(t *testing.T) {
	for _, words := range [][]uint32{{}, {10, 20}} {
		m := made(t, words...)
		for _, at := range []int{math.MinInt, -1, len(words), len(words) + 1, api.MaxWords, math.MaxInt} {
			if w, e := m.Read(at); w != 0 || e != api.ErrRange {
				t.Errorf("Read of %d: %d, %d", at, w, e)
			}
			if e := m.Write(at, 1); e != api.ErrRange {
				t.Errorf("Write of %d: %d", at, e)
			}
			if ok, e := m.Cas(at, 0, 1); ok || e != api.ErrRange {
				t.Errorf("Cas of %d: %v, %d", at, ok, e)
			}
		}
		if !holds(m, 0, words...) {
			t.Error("something has changed")
		}
	}
}

// P6.3: Look and Fill, at all places, make no steps.
func TestLookAndFill(t *testing.T) {
	for at := -2; at < 7; at++ {
		for n := -2; n < 7; n++ {
			words := []uint32{10, 20, 30, 40}
			m := made(t, words...)
			fits := at >= 0 && n >= 0 && at+n <= len(words)
			l, e := m.Look(span(at, n))
			if fits && (e != api.OK || !slices.Equal(l, words[at:at+n])) || !fits && (e != api.ErrRange || len(l) != 0) {
				t.Errorf("Look at %d, %d words: %v, %d", at, n, l, e)
			}
			if n < 0 {
				continue
			}
			put := []uint32{1, 2, 3, 4, 5, 6, 7}[:n]
			e = m.Fill(at, put)
			if fits {
				copy(words[at:], put)
			}
			if fits != (e == api.OK) || !fits && e != api.ErrRange || !holds(m, 0, words...) {
				t.Errorf("Fill at %d, %d words: %d", at, n, e)
			}
		}
	}
	m := made(t, 1)
	for _, r := range []region{span(math.MaxInt, 1), span(1, math.MaxInt), span(math.MaxInt, math.MaxInt), span(math.MinInt, 0), span(0, math.MinInt)} {
		if l, e := m.Look(r); len(l) != 0 || e != api.ErrRange {
			t.Errorf("Look of %v: %v, %d", r, l, e)
		}
	}
	if m.Fill(math.MaxInt, []uint32{1}) != api.ErrRange || m.Fill(math.MaxInt, nil) != api.ErrRange || m.Fill(math.MinInt, nil) != api.ErrRange {
		t.Error("Fill at huge places")
	}
}

// P6.1, P6.3: what is handed in or told shares nothing with the memory.
func TestLookAndFillShareNothing(t *testing.T) {
	in := []uint32{1, 2, 3}
	m := made(t, in...)
	in[0] = 9
	told, _ := m.Look(span(0, 2))
	told[1] = 9
	_ = append(told, 9)
	if !holds(m, 0, 1, 2, 3) || !slices.Equal(in, []uint32{9, 2, 3}) {
		t.Error("memory is shared")
	}
}

// P6.3: a clone has the same words and Steps, and goes its own way.
func TestClone(t *testing.T) {
	m := made(t, 1, 2)
	m.Read(0)
	c := m.Clone()
	if !holds(c, 1, 1, 2) {
		t.Fatal("the clone is another one")
	}
	c.Write(0, 8)
	c.Read(1)
	m.Write(1, 9)
	if !holds(c, 3, 8, 2) || !holds(m, 2, 1, 9) {
		t.Error("the clone is not apart")
	}
	if e := made(t).Clone(); e == nil || e.Len() != 0 {
		t.Error("a clone of no words")
	}
}

// P6.4: Inside, by its words, and where sums would go round.
func TestInside(t *testing.T) {
	for size := -2; size < 6; size++ {
		for at := -2; at < 8; at++ {
			for n := -2; n < 8; n++ {
				want := at >= 0 && n >= 0 && at+n <= size
				if mem.Inside(size, span(at, n)) != want {
					t.Errorf("Inside(%d, %d %d) is not %v", size, at, n, want)
				}
			}
		}
	}
	huge := math.MaxInt
	for _, r := range []region{span(huge, 1), span(1, huge), span(huge, huge), span(huge/2+1, huge/2+1), span(math.MinInt, 0), span(0, math.MinInt)} {
		if mem.Inside(huge, r) || mem.Inside(5, r) || mem.Inside(math.MinInt, r) {
			t.Errorf("Inside of %v", r)
		}
	}
	if !mem.Inside(huge, span(huge, 0)) || !mem.Inside(huge, span(0, huge)) || !mem.Inside(huge, span(huge-1, 1)) {
		t.Error("Inside of the greatest size")
	}
}

// P6.4: Apart, place by place, and where sums would go round.
func TestApart(t *testing.T) {
	for aAt := -1; aAt < 5; aAt++ {
		for aLen := -1; aLen < 5; aLen++ {
			for bAt := -1; bAt < 5; bAt++ {
				for bLen := -1; bLen < 5; bLen++ {
					want := aAt >= 0 && aLen >= 0 && bAt >= 0 && bLen >= 0
					for p := range 10 {
						if aAt <= p && p < aAt+aLen && bAt <= p && p < bAt+bLen {
							want = false
						}
					}
					if mem.Apart(span(aAt, aLen), span(bAt, bLen)) != want {
						t.Errorf("Apart of %d %d and %d %d is not %v", aAt, aLen, bAt, bLen, want)
					}
				}
			}
		}
	}
	huge := math.MaxInt
	for _, c := range []struct {
		a, b region
		want bool
	}{
		{span(huge, 5), span(0, 3), true},
		{span(huge, 1), span(huge-1, 1), true},
		{span(huge, 1), span(huge-1, 2), false},
		{span(5, huge), span(huge, 1), false},
		{span(1, huge), span(0, 1), true},
		{span(1, huge), span(0, 2), false},
		{span(math.MinInt, 1), span(0, 1), false},
		{span(0, 1), span(5, math.MinInt), false},
	} {
		if mem.Apart(c.a, c.b) != c.want || mem.Apart(c.b, c.a) != c.want {
			t.Errorf("Apart of %v and %v is not %v", c.a, c.b, c.want)
		}
	}
}

// P6.4: Cut's errors, the first one first.
func TestCutErrors(t *testing.T) {
	huge := math.MaxInt
	for _, c := range []struct {
		size int
		lens []int
		want api.Errno
	}{
		{5, []int{1, -1}, api.ErrArg},
		{5, []int{9, -1}, api.ErrArg},
		{-1, []int{math.MinInt}, api.ErrArg},
		{5, []int{3, 3}, api.ErrRoom},
		{5, []int{6}, api.ErrRoom},
		{5, []int{5, 0, 1}, api.ErrRoom},
		{0, []int{1}, api.ErrRoom},
		{-1, nil, api.ErrRoom},
		{-1, []int{0}, api.ErrRoom},
		{math.MinInt, []int{1}, api.ErrRoom},
		{5, []int{huge, huge, 2}, api.ErrRoom},
		{5, []int{1, huge}, api.ErrRoom},
		{huge, []int{huge, 1}, api.ErrRoom},
		{huge, []int{1, huge}, api.ErrRoom},
		{huge, []int{huge, 0}, api.OK},
		{0, nil, api.OK},
		{0, []int{0, 0}, api.OK},
	} {
		l, e := mem.Cut(c.size, c.lens)
		if e != c.want || e != api.OK && len(l) != 0 || e == api.OK && len(l) != len(c.lens) {
			t.Errorf("Cut(%d, %v): %v, %d, not %d", c.size, c.lens, l, e, c.want)
		}
	}
}

// P6.4, P6.5: what is cut stands one behind the other, apart and Inside.
func TestCut(t *testing.T) {
	for _, lens := range [][]int{{3, 0, 3}, {1}, {0}, {0, 2, 0, 4}, {2, 2, 1, 1}, {4096}} {
		sum := 0
		for _, n := range lens {
			sum += n
		}
		for _, size := range []int{sum, sum + 3} {
			was := slices.Clone(lens)
			l, e := mem.Cut(size, lens)
			if e != api.OK || len(l) != len(lens) || !slices.Equal(lens, was) {
				t.Fatalf("Cut(%d, %v): %v, %d", size, lens, l, e)
			}
			at := 0
			for i, r := range l {
				if r != span(at, lens[i]) || !mem.Inside(size, r) {
					t.Errorf("Cut(%d, %v): %v", size, lens, l)
				}
				for _, other := range l[:i] {
					if !mem.Apart(r, other) {
						t.Errorf("Cut(%d, %v): %v and %v", size, lens, r, other)
					}
				}
				at += lens[i]
			}
		}
		if _, e := mem.Cut(sum-1, lens); e != api.ErrRoom {
			t.Errorf("Cut(%d, %v): %d", sum-1, lens, e)
		}
	}
}

// The chapter's example.
func TestExample(t *testing.T) {
	m, _ := mem.New(2)
	first, _ := m.Cas(1, 0, 5)
	again, _ := m.Cas(1, 0, 5)
	if !first || again {
		t.Errorf("Cas of place 1 from 0 to 5: %v, %v", first, again)
	}
}
