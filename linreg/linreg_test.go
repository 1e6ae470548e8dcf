package linreg_test

import (
	"math/rand/v2"
	"reflect"
	"slices"
	"testing"

	"coxswain/api"
	"coxswain/history"
	"coxswain/linreg"
	"coxswain/record"
)

// write is a write of a word by process 0.
func write(w uint32, begin, end int) api.Call {
	return api.Call{Op: api.OpWrite, Rec: []uint32{w}, Begin: begin, End: end}
}

// read is a read of a word.
func read(proc int, w uint32, begin, end int) api.Call {
	return api.Call{Proc: proc, Op: api.OpRead, Rec: []uint32{w}, Begin: begin, End: end}
}

// retry is a read that ended with Retry.
func retry(proc, begin, end int) api.Call {
	return api.Call{Proc: proc, Op: api.OpRead, Code: api.Retry, Begin: begin, End: end}
}

// with is a call that is changed.
func with(c api.Call, change func(c *api.Call)) api.Call {
	change(&c)
	return c
}

// P22.2: Fits.
func TestFits(t *testing.T) {
	for _, c := range []struct {
		name string
		l    []api.Call
		want bool
	}{
		{"none", nil, true},
		{"a write", []api.Call{write(1, 0, 3)}, true},
		{"a read", []api.Call{read(1, 1, 0, 3)}, true},
		{"a retry", []api.Call{retry(1, 0, 3)}, true},
		{"a put", []api.Call{with(write(1, 0, 3), func(c *api.Call) { c.Op = api.OpPut })}, false},
		{"a take", []api.Call{write(2, 0, 3), with(read(1, 1, 0, 3), func(c *api.Call) { c.Op = api.OpTake })}, false},
		{"writes of one process", []api.Call{write(1, 0, 3), write(2, 4, 5)}, true},
		{"writes of one process that is not the first", []api.Call{with(write(1, 0, 3), func(c *api.Call) { c.Proc = 5 }), with(write(1, 4, 4), func(c *api.Call) { c.Proc = 5 })}, true},
		{"writes of two processes", []api.Call{write(1, 0, 3), with(write(1, 4, 5), func(c *api.Call) { c.Proc = 1 })}, false},
		{"the one that writes reads", []api.Call{write(1, 0, 3), read(0, 1, 4, 5)}, true},
		{"not right: two at once", []api.Call{write(1, 0, 3), write(2, 3, 5)}, false},
		{"not right: a time", []api.Call{read(1, 1, -1, 3)}, false},
		{"a write that ended with Retry", []api.Call{with(write(1, 0, 3), func(c *api.Call) { c.Code = api.Retry })}, false},
		{"a write that has not ended, with Retry", []api.Call{with(write(1, 0, -1), func(c *api.Call) { c.Code = api.Retry })}, false},
		{"a write that ended with Full", []api.Call{with(write(1, 0, 3), func(c *api.Call) { c.Code = api.Full })}, false},
		{"a read that ended with Full", []api.Call{with(read(1, 1, 0, 3), func(c *api.Call) { c.Code = api.Full })}, false},
		{"a read that ended with Empty", []api.Call{with(read(1, 1, 0, 3), func(c *api.Call) { c.Code = api.Empty })}, false},
		{"a read that has not ended, with Empty", []api.Call{with(read(1, 1, 0, -1), func(c *api.Call) { c.Code = api.Empty })}, false},
		{"a read that has not ended, with Retry", []api.Call{retry(1, 0, -1)}, true},
		{"a read that has not ended", []api.Call{read(1, 1, 0, -1)}, true},
		{"a write that has not ended", []api.Call{write(1, 0, -1)}, true},
		{"unlike objects", []api.Call{write(1, 0, 3), with(read(1, 1, 0, 3), func(c *api.Call) { c.Object = 4 })}, true},
		{"unlike widths", []api.Call{write(1, 0, 3), with(read(1, 1, 4, 5), func(c *api.Call) { c.Rec = []uint32{1, 2} })}, true},
	} {
		if linreg.Fits(c.l) != c.want {
			t.Errorf("%s: Fits is not %v", c.name, c.want)
		}
		if _, ok := linreg.Assign([]uint32{1}, c.l); ok && !c.want {
			t.Errorf("%s: Assign of what does not fit", c.name)
		}
		if linreg.Check([]uint32{1}, c.l) && !c.want {
			t.Errorf("%s: Check of what does not fit", c.name)
		}
	}
}

// P22.3: of which write each read tells. The first record is 0.
func TestAssign(t *testing.T) {
	two := []api.Call{write(5, 10, 19), write(6, 30, 39)}
	for _, c := range []struct {
		name string
		l    []api.Call
		want []int
		ok   bool
	}{
		{"none", nil, nil, true},
		{"writes alone", two, nil, true},
		{"the first record, of no writes", []api.Call{read(1, 0, 0, 3)}, []int{0}, true},
		{"another record, of no writes", []api.Call{read(1, 1, 0, 3)}, nil, false},
		{"ahead of all writes", append(two, read(1, 0, 0, 9)), []int{0}, true},
		{"a write ahead of its first step", append(two, read(1, 5, 0, 9)), nil, false},
		{"a write from its first step on", append(two, read(1, 5, 0, 10)), []int{1}, true},
		{"the first record up to the write's last step", append(two, read(1, 0, 19, 25)), []int{0}, true},
		{"the first record behind the write", append(two, read(1, 0, 20, 25)), nil, false},
		{"a write, behind it", append(two, read(1, 5, 20, 25)), []int{1}, true},
		{"a write up to the next one's last step", append(two, read(1, 5, 39, 50)), []int{1}, true},
		{"a write behind the next one", append(two, read(1, 5, 40, 50)), nil, false},
		{"the last write", append(two, read(1, 6, 40, 50)), []int{2}, true},
		{"over all, the first record", append(two, read(1, 0, 0, 50)), []int{0}, true},
		{"over all, the first write", append(two, read(1, 5, 0, 50)), []int{1}, true},
		{"over all, the last write", append(two, read(1, 6, 0, 50)), []int{2}, true},
		{"new, and then old", append(two, read(1, 5, 11, 12), read(2, 0, 13, 14)), nil, false},
		{"new and old at once", append(two, read(1, 5, 11, 13), read(2, 0, 13, 14)), []int{1, 0}, true},
		{"old, and then new", append(two, read(1, 0, 11, 12), read(2, 5, 13, 14)), []int{0, 1}, true},
		{"a read that has not ended tells nothing", append(two, read(1, 77, 0, -1)), nil, true},
		{"a read that ended with Retry tells nothing", append(two, retry(1, 0, 3)), nil, true},
		{"a write that has not ended", []api.Call{write(5, 10, -1), read(1, 5, 12, 14)}, []int{1}, true},
		{"a write that has not ended need not come", []api.Call{write(5, 10, -1), read(1, 0, 12, 14)}, []int{0}, true},
		{"a write that has not ended, and then not", []api.Call{write(5, 10, -1), read(1, 5, 12, 14), read(1, 0, 15, 16)}, nil, false},
		{"a write that has not begun", []api.Call{write(5, 10, -1), read(1, 5, 2, 9)}, nil, false},
		{"the order in which they stand does not matter", []api.Call{read(2, 6, 33, 35), write(6, 30, 39), read(1, 5, 21, 22), write(5, 10, 19), read(2, 0, 11, 12)}, []int{0, 1, 2}, true},
		{"reads of one beginning, by process", append(two, read(3, 5, 11, 12), read(1, 0, 11, 12)), []int{0, 1}, true},
		{"the same record once more: the least", []api.Call{write(5, 10, 19), write(5, 30, 39), read(1, 5, 15, 35)}, []int{1}, true},
		{"the same record once more, behind it", []api.Call{write(5, 10, 19), write(5, 30, 39), read(1, 5, 40, 41)}, []int{2}, true},
		{"the same record once more, behind another read", []api.Call{write(5, 10, 19), write(6, 20, 29), write(5, 30, 39), read(1, 6, 21, 22), read(2, 5, 23, 50)}, []int{2, 3}, true},
		{"the first record once more", []api.Call{write(5, 10, 19), write(0, 20, 29), read(1, 5, 21, 22), read(1, 0, 23, 24)}, []int{1, 2}, true},
		{"a long read tells little to those that begin within it", []api.Call{write(5, 10, 19), read(1, 5, 11, 30), read(2, 0, 12, 14)}, []int{1, 0}, true},
		{"a late read with an early one's end ahead of it", []api.Call{write(5, 10, 90), read(1, 5, 11, 12), read(2, 0, 11, 30), read(3, 5, 13, 14), read(4, 0, 13, 15)}, nil, false},
	} {
		l := slices.Clone(c.l)
		got, ok := linreg.Assign([]uint32{0}, l)
		if !slices.Equal(got, c.want) || ok != c.ok {
			t.Errorf("%s: Assign: %v %v", c.name, got, ok)
		}
		if linreg.Check([]uint32{0}, l) != c.ok {
			t.Errorf("%s: Check is not %v", c.name, c.ok)
		}
	}
}

// P22.2: records are whole: of any width, and none is as good as an empty one.
func TestRecords(t *testing.T) {
	wide := func(proc, op, begin, end int, rec ...uint32) api.Call {
		return api.Call{Proc: proc, Op: op, Rec: rec, Begin: begin, End: end}
	}
	l := []api.Call{wide(0, api.OpWrite, 0, 9, 1, 2), wide(1, api.OpRead, 2, 3, 7, 8)}
	for _, c := range []struct {
		rec  []uint32
		want bool
	}{{[]uint32{1, 2}, true}, {[]uint32{7, 8}, true}, {[]uint32{1, 8}, false}, {[]uint32{7, 2}, false}, {[]uint32{1}, false}, {nil, false}, {[]uint32{1, 2, 0}, false}} {
		l[1].Rec = c.rec
		if linreg.Check([]uint32{7, 8}, l) != c.want {
			t.Errorf("%v: Check is not %v", c.rec, c.want)
		}
	}
	if !linreg.Check(nil, []api.Call{wide(1, api.OpRead, 0, 1)}) || !linreg.Check([]uint32{}, []api.Call{wide(1, api.OpRead, 0, 1)}) {
		t.Error("an empty first record")
	}
	if linreg.Check(make([]uint32, 100), []api.Call{wide(1, api.OpRead, 0, 1, 0)}) {
		t.Error("a long first record")
	}
}

// some is a register's calls, of few processes, times and words.
func some(r *rand.Rand, most int) []api.Call {
	var l []api.Call
	procs := 2 + r.IntN(3)
	for proc := range procs {
		time := r.IntN(4)
		for range r.IntN(1 + most) {
			c := api.Call{Proc: proc, Op: api.OpRead, Rec: []uint32{r.Uint32N(3)}, Begin: time, End: time + r.IntN(5)}
			if proc == 0 && r.IntN(8) > 0 {
				c.Op = api.OpWrite
			} else if r.IntN(8) == 0 {
				c.Code = api.Retry
			}
			time = c.End + 1 + r.IntN(3)
			l = append(l, c)
		}
		if n := len(l); n > 0 && l[n-1].Proc == proc && r.IntN(4) == 0 {
			l[n-1].End = -1
		}
	}
	r.Shuffle(len(l), func(i, k int) { l[i], l[k] = l[k], l[i] })
	return l
}

// assigned is what Assign must tell of calls that fit, word by word.
func assigned(init []uint32, l []api.Call) ([]int, bool) {
	writes, reads := []api.Call{{}}, []api.Call(nil)
	for _, c := range history.Sort(l) {
		if c.Op == api.OpWrite {
			writes = append(writes, c)
		} else if c.Code == api.Good && c.End >= 0 {
			reads = append(reads, c)
		}
	}
	may := func(r api.Call, k int) bool {
		rec := init
		if k > 0 {
			rec = writes[k].Rec
			if history.Before(r, writes[k]) {
				return false
			}
		}
		return record.Same(rec, r.Rec) && !slices.ContainsFunc(writes[k+1:], func(w api.Call) bool { return history.Before(w, r) })
	}
	var told []int
	for i, r := range reads {
		least := 0
		for k, ahead := range reads[:i] {
			if history.Before(ahead, r) {
				least = max(least, told[k])
			}
		}
		for least < len(writes) && !may(r, least) {
			least++
		}
		if least == len(writes) {
			return nil, false
		}
		told = append(told, least)
	}
	return told, true
}

// linearizes tells whether calls linearize, by all orders in which they can be put.
func linearizes(last []uint32, l []api.Call) bool {
	must := func(c api.Call) bool { return c.End >= 0 && c.Code == api.Good }
	if !slices.ContainsFunc(l, must) {
		return true
	}
	for i, c := range l {
		rest := slices.Delete(slices.Clone(l), i, i+1)
		if c.Op == api.OpRead && !must(c) {
			return linearizes(last, rest)
		}
		if slices.ContainsFunc(rest, func(b api.Call) bool { return history.Before(b, c) }) {
			continue
		}
		if c.Op == api.OpWrite && linearizes(c.Rec, rest) {
			return true
		}
		if c.Op == api.OpRead && record.Same(last, c.Rec) && linearizes(last, rest) {
			return true
		}
	}
	return false
}

// P22.2 to P22.4: Assign is what its words say, and Check what the orders say.
func TestAllOrders(t *testing.T) {
	r := rand.New(rand.NewPCG(22, 1))
	found := map[bool]int{}
	for range 30000 {
		l := some(r, 3)
		init := []uint32{r.Uint32N(3)}
		if !linreg.Fits(l) {
			t.Fatalf("%v does not fit", l)
		}
		want, ok := assigned(init, l)
		if got, k := linreg.Assign(init, l); !slices.Equal(got, want) || k != ok {
			t.Fatalf("Assign of %v: %v %v, not %v %v", l, got, k, want, ok)
		}
		if linreg.Check(init, l) != ok {
			t.Fatalf("Check of %v is not %v", l, ok)
		}
		// All orders of many calls take long.
		if len(l) > 8 {
			continue
		}
		if linearizes(init, l) != ok {
			t.Fatalf("%v: Check is %v", l, ok)
		}
		found[ok]++
	}
	if found[true] < 3000 || found[false] < 3000 {
		t.Errorf("too few of one kind: %v", found)
	}
}

// P22.4: whatever reads are left out, what linearizes still does.
func TestLeftOut(t *testing.T) {
	r := rand.New(rand.NewPCG(22, 4))
	left := 0
	for range 20000 {
		l := some(r, 4)
		if !linreg.Check([]uint32{0}, l) {
			continue
		}
		fewer := slices.DeleteFunc(slices.Clone(l), func(c api.Call) bool { return c.Op == api.OpRead && r.IntN(2) == 0 })
		if !linreg.Check([]uint32{0}, fewer) {
			t.Fatalf("%v, but not %v", l, fewer)
		}
		left += len(l) - len(fewer)
	}
	if left < 1000 {
		t.Errorf("just %d were left out", left)
	}
}

// P22.1: what is handed in stays as it is.
func TestUnchanged(t *testing.T) {
	made := func() []api.Call {
		return []api.Call{read(2, 6, 33, 35), write(6, 30, 39), read(1, 5, 21, 22), write(5, 10, 19)}
	}
	l, init := made(), []uint32{0}
	told, _ := linreg.Assign(init, l)
	linreg.Fits(l)
	linreg.Check(init, l)
	told[0] = 9
	if !reflect.DeepEqual(l, made()) || init[0] != 0 {
		t.Errorf("what was handed in is now %v", l)
	}
	if again, ok := linreg.Assign(init, l); !ok || !slices.Equal(again, []int{1, 2}) {
		t.Errorf("once more: %v", again)
	}
}

// P22.1: a long history is answered, too.
func TestLong(t *testing.T) {
	var l []api.Call
	for k := range 20000 {
		l = append(l, write(uint32(k+1), 10*k, 10*k+5), read(1, uint32(k+1), 10*k+6, 10*k+7), read(2, uint32(k), 10*k+1, 10*k+9))
	}
	told, ok := linreg.Assign([]uint32{0}, l)
	if !ok || len(told) != 40000 || told[39998] != 19999 || told[39999] != 20000 {
		t.Errorf("%d reads", len(told))
	}
}
