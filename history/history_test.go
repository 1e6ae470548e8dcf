package history_test

import (
	"math"
	"math/rand/v2"
	"reflect"
	"slices"
	"strings"
	"testing"

	"coxswain/api"
	"coxswain/history"
)

// call is a read by a process, from and to some times.
func call(proc, begin, end int) api.Call {
	return api.Call{Proc: proc, Op: api.OpRead, Begin: begin, End: end}
}

// P21.2: Before, also of calls that are not right.
func TestBefore(t *testing.T) {
	for _, c := range []struct {
		end, begin int
		want       bool
	}{
		{4, 5, true}, {5, 5, false}, {6, 5, false}, {0, 1, true}, {0, 0, false}, {-1, 5, false}, {-1, 0, false}, {-2, 5, false},
		{math.MinInt, math.MaxInt, false}, {math.MaxInt, math.MinInt, false}, {math.MaxInt - 1, math.MaxInt, true}, {3, -1, false}, {-3, -1, false},
	} {
		for proc := range 2 {
			if history.Before(call(0, 2, c.end), call(proc, c.begin, 9)) != c.want {
				t.Errorf("a call that ends at %d is not %v before one that begins at %d", c.end, c.want, c.begin)
			}
		}
	}
}

// P21.2: which calls are right, each bound itself with them.
func TestRightCall(t *testing.T) {
	good := api.Call{Proc: 1, Object: 2, Op: api.OpTake, Rec: []uint32{1}, Code: api.Empty, Begin: 5, End: 9}
	for _, c := range []struct {
		name   string
		change func(c *api.Call)
		want   bool
	}{
		{"nothing", func(c *api.Call) {}, true},
		{"Proc 0", func(c *api.Call) { c.Proc = 0 }, true},
		{"Proc Top", func(c *api.Call) { c.Proc = api.Top }, true},
		{"Proc below 0", func(c *api.Call) { c.Proc = -1 }, false},
		{"Proc above Top", func(c *api.Call) { c.Proc = api.Top + 1 }, false},
		{"Object 0", func(c *api.Call) { c.Object = 0 }, true},
		{"Object Top", func(c *api.Call) { c.Object = api.Top }, true},
		{"Object below 0", func(c *api.Call) { c.Object = -1 }, false},
		{"Object above Top", func(c *api.Call) { c.Object = api.Top + 1 }, false},
		{"Op none", func(c *api.Call) { c.Op = 0 }, false},
		{"Op read", func(c *api.Call) { c.Op = api.OpRead }, true},
		{"Op write", func(c *api.Call) { c.Op = api.OpWrite }, true},
		{"Op put", func(c *api.Call) { c.Op = api.OpPut }, true},
		{"Op above", func(c *api.Call) { c.Op = 5 }, false},
		{"Op below", func(c *api.Call) { c.Op = math.MinInt }, false},
		{"Code Good", func(c *api.Call) { c.Code = api.Good }, true},
		{"Code Retry", func(c *api.Call) { c.Code = api.Retry }, true},
		{"Code Full", func(c *api.Call) { c.Code = api.Full }, true},
		{"Code below", func(c *api.Call) { c.Code = -1 }, false},
		{"Code above", func(c *api.Call) { c.Code = 4 }, false},
		{"Begin 0", func(c *api.Call) { c.Begin = 0 }, true},
		{"Begin below 0", func(c *api.Call) { c.Begin = -1 }, false},
		{"Begin and End Top", func(c *api.Call) { c.Begin, c.End = api.Top, api.Top }, true},
		{"Begin above Top", func(c *api.Call) { c.Begin, c.End = api.Top+1, -1 }, false},
		{"Begin Top, not ended", func(c *api.Call) { c.Begin, c.End = api.Top, -1 }, true},
		{"End Begin", func(c *api.Call) { c.End = 5 }, true},
		{"End ahead of Begin", func(c *api.Call) { c.End = 4 }, false},
		{"End above Top", func(c *api.Call) { c.End = api.Top + 1 }, false},
		{"not ended", func(c *api.Call) { c.End = -1 }, true},
		{"End -2", func(c *api.Call) { c.End = -2 }, false},
		{"no Rec", func(c *api.Call) { c.Rec = nil }, true},
		{"an empty Rec", func(c *api.Call) { c.Rec = []uint32{} }, true},
		{"Rec of MaxWidth", func(c *api.Call) { c.Rec = make([]uint32, api.MaxWidth) }, true},
		{"Rec above MaxWidth", func(c *api.Call) { c.Rec = make([]uint32, api.MaxWidth+1) }, false},
	} {
		x := good
		c.change(&x)
		if history.Right([]api.Call{x}) != c.want {
			t.Errorf("%s: Right is not %v", c.name, c.want)
		}
		if history.Right([]api.Call{call(7, 0, 1), x}) != c.want {
			t.Errorf("%s, behind another one: Right is not %v", c.name, c.want)
		}
		// P21.4: a line is a right call's.
		if s, ok := history.Line(x); ok != c.want || (s == "") == c.want {
			t.Errorf("%s: Line: %q %v", c.name, s, ok)
		}
	}
}

// P21.2: of each two calls of one process one stands before the other one.
func TestRightHistory(t *testing.T) {
	for _, c := range []struct {
		name string
		l    []api.Call
		want bool
	}{
		{"none", nil, true},
		{"one behind the other", []api.Call{call(1, 0, 3), call(1, 4, 6)}, true},
		{"the same, turned round", []api.Call{call(1, 4, 6), call(1, 0, 3)}, true},
		{"one begins as the other one ends", []api.Call{call(1, 0, 4), call(1, 4, 6)}, false},
		{"the same, of two processes", []api.Call{call(1, 0, 4), call(2, 4, 6)}, true},
		{"one within the other", []api.Call{call(1, 0, 9), call(1, 2, 3)}, false},
		{"twice the same", []api.Call{call(1, 2, 3), call(1, 2, 3)}, false},
		{"twice the same step", []api.Call{call(1, 2, 2), call(1, 2, 2)}, false},
		{"the last one not ended", []api.Call{call(1, 0, 3), call(1, 4, -1)}, true},
		{"the first one not ended", []api.Call{call(1, 0, -1), call(1, 4, 6)}, false},
		{"two not ended", []api.Call{call(1, 0, -1), call(1, 4, -1)}, false},
		{"two not ended, of two processes", []api.Call{call(1, 0, -1), call(2, 0, -1)}, true},
		{"others in between", []api.Call{call(1, 0, 5), call(2, 1, 2), call(3, 2, 7), call(1, 5, 9)}, false},
		{"of other objects", []api.Call{{Op: api.OpPut, End: 5}, {Op: api.OpRead, Object: 1, Begin: 5, End: 6}}, false},
	} {
		if history.Right(c.l) != c.want {
			t.Errorf("%s: Right is not %v", c.name, c.want)
		}
	}
}

// some is so many calls, most of them right, whose processes and times are few.
func some(r *rand.Rand, n int) []api.Call {
	l := make([]api.Call, n)
	for i := range l {
		begin := r.IntN(3 * n)
		l[i] = api.Call{Proc: r.IntN(4), Object: r.IntN(3), Op: 1 + r.IntN(4), Code: r.IntN(4), Begin: begin, End: begin + r.IntN(4)}
		l[i].Rec = make([]uint32, r.IntN(3))
		for k := range l[i].Rec {
			l[i].Rec[k] = r.Uint32()
		}
		if r.IntN(8) == 0 {
			l[i].End = -1
		}
	}
	return l
}

// P21.2: Right is what its words say of each two.
func TestRightOfEachTwo(t *testing.T) {
	r := rand.New(rand.NewPCG(21, 2))
	found := map[bool]int{}
	for range 20000 {
		l := some(r, r.IntN(7))
		want := true
		for i, a := range l {
			for _, b := range l[:i] {
				want = want && (a.Proc != b.Proc || history.Before(a, b) || history.Before(b, a))
			}
		}
		if history.Right(l) != want {
			t.Fatalf("Right of %v is not %v", l, want)
		}
		found[want]++
	}
	if found[true] < 1000 || found[false] < 1000 {
		t.Errorf("too few of one kind: %v", found)
	}
}

// P21.3: Sort, also of calls that are not right, and stable.
func TestSort(t *testing.T) {
	l := []api.Call{
		{Proc: 3, Begin: 5, Object: 0}, {Proc: 1, Begin: 5, Object: 1}, {Proc: 3, Begin: 5, Object: 2}, {Proc: 1, Begin: 5, Object: 3},
		{Proc: 9, Begin: 0, Object: 4}, {Proc: -9, Begin: 7, Object: 5}, {Proc: math.MaxInt, Begin: math.MinInt, Object: 6}, {Proc: math.MinInt, Begin: math.MaxInt, Object: 7},
	}
	var got []int
	for _, c := range history.Sort(l) {
		got = append(got, c.Object)
	}
	if !slices.Equal(got, []int{6, 4, 1, 3, 0, 2, 5, 7}) {
		t.Errorf("Sort: %v", got)
	}
	many := make([]api.Call, 1000)
	for i := range many {
		many[i] = api.Call{Proc: i % 3, Begin: i % 5, Object: i}
	}
	sorted := history.Sort(many)
	for i, b := range sorted[1:] {
		a := sorted[i]
		if a.Begin > b.Begin || a.Begin == b.Begin && (a.Proc > b.Proc || a.Proc == b.Proc && a.Object >= b.Object) {
			t.Fatalf("%v ahead of %v", a, b)
		}
	}
	if len(sorted) != len(many) || len(history.Sort(nil)) != 0 {
		t.Errorf("%d calls", len(sorted))
	}
}

// P21.3: Of, By and Procs.
func TestPicked(t *testing.T) {
	l := []api.Call{
		{Proc: 2, Object: 1, Begin: 9, Rec: []uint32{1}}, {Proc: 0, Object: 1, Begin: 3}, {Proc: 2, Object: 0, Begin: 4}, {Proc: 0, Object: 1, Begin: 8}, {Proc: -1, Object: -1},
	}
	if got := history.Of(l, 1); !reflect.DeepEqual(got, []api.Call{l[0], l[1], l[3]}) {
		t.Errorf("Of: %v", got)
	}
	if got := history.By(l, 2); !reflect.DeepEqual(got, []api.Call{l[0], l[2]}) {
		t.Errorf("By: %v", got)
	}
	if len(history.Of(l, -1)) != 1 || len(history.By(l, -1)) != 1 || len(history.Of(l, 7)) != 0 || len(history.By(nil, 0)) != 0 {
		t.Error("calls of strange numbers")
	}
	if got := history.Procs(l); !slices.Equal(got, []int{-1, 0, 2}) {
		t.Errorf("Procs: %v", got)
	}
	if len(history.Procs(nil)) != 0 {
		t.Error("processes of none")
	}
}

// P21.1: what is handed in stays as it is, and what is told is apart.
func TestApart(t *testing.T) {
	made := func() []api.Call {
		return []api.Call{{Proc: 1, Begin: 5, Rec: []uint32{1, 2}}, {Proc: 1, Begin: 3, Rec: []uint32{3}}, {Proc: 0, Begin: 3, Rec: []uint32{4}}}
	}
	l := made()
	for name, told := range map[string][]api.Call{"Sort": history.Sort(l), "Of": history.Of(l, 0), "By": history.By(l, 1)} {
		for i := range told {
			told[i].Rec[0] = 99
			told[i].Rec = append(told[i].Rec, 98)
			told[i].Proc = 97
		}
		if !reflect.DeepEqual(l, made()) {
			t.Errorf("%s: what was handed in is now %v", name, l)
		}
	}
	history.Right(l)
	history.Procs(l)
	if !reflect.DeepEqual(l, made()) {
		t.Errorf("what was handed in is now %v", l)
	}
}

// lines are right calls, with their lines.
func lines() map[string]api.Call {
	return map[string]api.Call{
		"2 0 read 5 9 good 7 8":                                   {Proc: 2, Op: api.OpRead, Rec: []uint32{7, 8}, Begin: 5, End: 9},
		"0 7 write 0 - good 0":                                    {Object: 7, Op: api.OpWrite, Rec: []uint32{0}, End: -1},
		"1 1 put 10 10 full 4294967295":                           {Proc: 1, Object: 1, Op: api.OpPut, Code: api.Full, Rec: []uint32{math.MaxUint32}, Begin: 10, End: 10},
		"0 0 take 0 0 empty":                                      {Op: api.OpTake, Code: api.Empty},
		"0 0 read 1 20 retry":                                     {Op: api.OpRead, Code: api.Retry, Begin: 1, End: 20},
		"1099511627776 1099511627776 take 1099511627776 - retry":  {Proc: api.Top, Object: api.Top, Op: api.OpTake, Code: api.Retry, Begin: api.Top, End: -1},
		"0 0 put 1099511627776 1099511627776 empty":               {Op: api.OpPut, Code: api.Empty, Begin: api.Top, End: api.Top},
		"100 10 read 0 1099511627776 good 1 2 3 4 5 6 7 10203040": {Proc: 100, Object: 10, Op: api.OpRead, Rec: []uint32{1, 2, 3, 4, 5, 6, 7, 10203040}, End: api.Top},
	}
}

// P21.4: Line, and Read of it.
func TestLines(t *testing.T) {
	for s, c := range lines() {
		if got, ok := history.Line(c); got != s || !ok {
			t.Errorf("Line: %q %v, not %q", got, ok, s)
		}
		if got, ok := history.Read(s); !ok || !reflect.DeepEqual(got, c) {
			t.Errorf("Read of %q: %v %v", s, got, ok)
		}
	}
	r := rand.New(rand.NewPCG(21, 4))
	for range 2000 {
		c := some(r, 1)[0]
		s, ok := history.Line(c)
		got, back := history.Read(s)
		if !ok || !back || !slices.Equal(got.Rec, c.Rec) {
			t.Fatalf("%q: %v, not %v", s, got, c)
		}
		got.Rec, c.Rec = nil, nil
		if !reflect.DeepEqual(got, c) {
			t.Fatalf("%q: %v, not %v", s, got, c)
		}
	}
}

// P21.4: texts that are no call's line.
func TestReadOthers(t *testing.T) {
	for _, s := range []string{
		"", " ", "     ", "-", "2", "2 0 read 5 9", "2 0 read 5 9 ", "2 0 read 5 9 good ", " 2 0 read 5 9 good", "2  0 read 5 9 good", "2 0 read 5 9 good  7", "2 0 read 5 9 good 7 ", "2 0 read 5 9 good\n", "2 0 read 5 9 good 7\n", "2\t0 read 5 9 good",
		"02 0 read 5 9 good", "+2 0 read 5 9 good", "-0 0 read 5 9 good", "-2 0 read 5 9 good", "2 00 read 5 9 good", "2 0 read 05 9 good", "2 0 read 5 09 good", "2 0 read 5 9 good 07", "2 0 read 5 9 good -7", "2 0 read 5 9 good +7",
		"2 0 Read 5 9 good", "2 0 reads 5 9 good", "2 0  5 9 good", "2 0 swap 5 9 good", "2 0 read 5 9 Good", "2 0 read 5 9 fine", "2 0 read 5 9  7", "2 0 1 5 9 good", "2 0 read 5 9 0",
		"2 0 read 5 -1 good", "2 0 read 5 4 good", "2 0 read 5 -- good", "2 0 read - 9 good", "2 0 read - - good", "- 0 read 5 9 good", "2 - read 5 9 good", "2 0 read -1 9 good",
		"1099511627777 0 read 5 9 good", "2 1099511627777 read 5 9 good", "2 0 read 1099511627777 - good", "2 0 read 5 1099511627777 good", "9223372036854775808 0 read 5 9 good", "2 0 read 5 99999999999999999999 good", "-9223372036854775809 0 read 5 9 good",
		"2 0 read 5 9 good 4294967296", "2 0 read 5 9 good 1 2 3 4 5 6 7 8 9", "2 0 read 5 9 good x", "2 0 read 5 9 good 7 x", "2 0 read 5 9 good 7,8", "2 0 read 5 9 good -", "x 0 read 5 9 good", "0x2 0 read 5 9 good", "1_0 0 read 5 9 good", "2 0 read 5.0 9 good", "٢ 0 read 5 9 good", "\xff", "2 0 read 5 9 good\x00",
		strings.Repeat(" ", 5000), strings.Repeat("9", 5000), "2 0 read 5 9 good" + strings.Repeat(" 1", 5000),
	} {
		if c, ok := history.Read(s); ok || !reflect.DeepEqual(c, api.Call{}) {
			t.Errorf("Read of %q: %v %v", s, c, ok)
		}
	}
	// A line with one letter less, or another one, is that of no call, or of another one.
	for s := range lines() {
		for i := range s {
			for _, x := range []string{s[:i] + s[i+1:], s[:i] + " " + s[i+1:], s[:i] + "0" + s[i+1:], s[:i] + "-" + s[i:]} {
				c, ok := history.Read(x)
				if line, right := history.Line(c); ok && (!right || line != x) || !ok && !reflect.DeepEqual(c, api.Call{}) {
					t.Errorf("Read of %q: %v %v", x, c, ok)
				}
			}
		}
	}
}

// P21.5: of two that stand before others, one stands before the other one's.
func TestFour(t *testing.T) {
	var l []api.Call
	for begin := range 4 {
		for end := begin; end < 4; end++ {
			l = append(l, call(0, begin, end))
		}
		l = append(l, call(0, begin, -1))
	}
	for _, a := range l {
		for _, b := range l {
			if !history.Before(a, b) {
				continue
			}
			for _, c := range l {
				for _, d := range l {
					if history.Before(c, d) && !history.Before(a, d) && !history.Before(c, b) {
						t.Errorf("%v %v %v %v", a, b, c, d)
					}
				}
			}
		}
	}
}

// P21.5: what is right stands in order with all of its process.
func TestInOrder(t *testing.T) {
	r := rand.New(rand.NewPCG(21, 5))
	right := 0
	for range 20000 {
		l := some(r, 5)
		if !history.Right(l) {
			continue
		}
		right++
		for _, proc := range history.Procs(l) {
			row := history.Sort(history.By(l, proc))
			for i := range row {
				for k := range row[:i] {
					if !history.Before(row[k], row[i]) {
						t.Fatalf("%v", row)
					}
				}
			}
		}
	}
	if right < 1000 {
		t.Errorf("just %d right ones", right)
	}
}

// P21.1: a long history is answered, too.
func TestLong(t *testing.T) {
	l := make([]api.Call, 200000)
	for i := range l {
		k := (i * 7919) % len(l)
		l[i] = call(k%5, k, k)
	}
	if !history.Right(l) || len(history.Procs(l)) != 5 || len(history.By(l, 4)) != len(l)/5 {
		t.Error("a long history")
	}
	for i, c := range history.Sort(l) {
		if c.Begin != i {
			t.Fatalf("%v at %d", c, i)
		}
	}
}
