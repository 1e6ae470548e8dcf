package cab_test

import (
	"math"
	"math/rand/v2"
	"slices"
	"testing"

	"coxswain/api"
	"coxswain/cab"
	"coxswain/mem"
)

// made is an object of so many readers, with records of so many words, the first one 101, 102 and so on, so many slots, and attempts.
func made(readers, width, slots, attempts int) api.Object {
	o := api.Object{Kind: api.Cab, Width: width, Slots: slots, Cap: attempts, Readers: make([]int, readers)}
	for i := range max(width, 0) {
		o.Init = append(o.Init, uint32(101+i))
	}
	return o
}

// at is where the objects of these tests stand: behind three words of others.
const at = 3

// stand is a memory in which an object stands among words of others.
func stand(t *testing.T, o api.Object) *mem.Mem {
	t.Helper()
	m, e := mem.New(at + cab.Size(o) + 2)
	if e != api.OK || m.Fill(0, slices.Repeat([]uint32{77}, m.Len())) != api.OK || m.Fill(at, cab.Lay(o)) != api.OK {
		t.Fatalf("%v cannot stand in a memory", o)
	}
	return m
}

// look is all words of a memory.
func look(m *mem.Mem) []uint32 {
	l, _ := m.Look(api.Region{Len: m.Len()})
	return l
}

// begin is an operation on the object of these tests.
func begin(t *testing.T, o api.Object, op, reader int, rec ...uint32) *cab.Op {
	t.Helper()
	x, e := cab.Begin(o, at, op, reader, rec)
	if e != api.OK || x == nil || x.Over() || x.Steps() != 0 {
		t.Fatalf("Begin of %v, %d, %d, %v: %d", o, op, reader, rec, e)
	}
	return x
}

// do makes all steps of an operation, and tells what it read, how it ended, and how many steps it made.
func do(t *testing.T, o api.Object, m *mem.Mem, op, reader int, rec ...uint32) ([]uint32, int, int) {
	t.Helper()
	x := begin(t, o, op, reader, rec...)
	for x.Step(m) {
	}
	if !x.Over() {
		t.Fatalf("an operation %d of %v does not end", op, o)
	}
	read, code := x.Answer()
	return read, code, x.Steps()
}

// plan is an operation in the chapter's words, made on an object's words; between each two steps it calls then.
type plan func(l []uint32, then func()) ([]uint32, int)

// follow makes an operation beside its plan, and holds both against each other behind each step; ahead of each step others do to the object's words what they will.
func follow(t *testing.T, x *cab.Op, m *mem.Mem, size int, p plan, others func(l []uint32)) {
	t.Helper()
	l, steps, before := look(m), 0, m.Steps()
	object := l[at : at+size]
	step := func(over bool) {
		t.Helper()
		steps++
		if c := x.Clone(); !c.Step(m.Clone()) || c.Over() != over || c.Steps() != steps || x.Steps() != steps-1 {
			t.Fatalf("step %d: a clone does otherwise, or is not apart", steps)
		}
		if !x.Step(m) || x.Over() != over || x.Steps() != steps || m.Steps() != before+steps {
			t.Fatalf("step %d: over is %v, not %v; %d steps, %d of the memory", steps, x.Over(), over, x.Steps(), m.Steps()-before)
		}
		if got := look(m); !slices.Equal(got, l) {
			t.Fatalf("behind step %d: %v, not %v", steps, got, l)
		}
	}
	others(object)
	m.Fill(0, l)
	read, code := p(object, func() {
		t.Helper()
		step(false)
		if got, how := x.Answer(); len(got) != 0 || how != api.Good {
			t.Fatalf("behind step %d an answer: %v, %d", steps, got, how)
		}
		others(object)
		m.Fill(0, l)
	})
	step(true)
	if got, how := x.Answer(); !slices.Equal(got, read) || how != code {
		t.Fatalf("ended with %v, %d, not %v, %d", got, how, read, code)
	}
	if x.Step(m) || x.Steps() != steps || m.Steps() != before+steps {
		t.Fatal("a step behind the last one")
	}
}

// alone is nobody else.
func alone([]uint32) {}

// scribbler changes each of the first words, and of those behind them, once in so many times, to what nobody would write, or to a number below most.
func scribbler(r *rand.Rand, first, once int, most uint32) func(l []uint32) {
	return func(l []uint32) {
		for i := range l {
			switch {
			case r.IntN(once) > 0:
			case i >= first || r.IntN(8) == 0:
				l[i] = r.Uint32()
			default:
				l[i] = r.Uint32N(most)
			}
		}
	}
}

// record is a record of so many words.
func record(r *rand.Rand, width int) []uint32 {
	l := make([]uint32, width)
	for i := range l {
		l[i] = r.Uint32()
	}
	return l
}

// P18.1: a nil operation is none.
func TestNone(t *testing.T) {
	var x *cab.Op
	m, _ := mem.New(40)
	if rec, code := x.Answer(); len(rec) != 0 || code != api.Good {
		t.Error("Answer")
	}
	if x.Step(m) || x.Step(nil) || !x.Over() || x.Steps() != 0 || x.Clone() != nil || m.Steps() != 0 {
		t.Error("a nil operation does something")
	}
}

// P14.2: which objects are right, and that those that are not have nothing.
func TestRight(t *testing.T) {
	for readers := range api.MaxReaders + 3 {
		for slots := -1; slots <= api.MaxSlots+2; slots++ {
			for attempts := -1; attempts <= api.MaxCap+2; attempts++ {
				want := readers >= 1 && readers <= api.MaxReaders && slots >= readers+2 && slots <= api.MaxSlots && attempts >= 1 && attempts <= api.MaxCap
				if got := cab.Right(made(readers, 2, slots, attempts)); got != want {
					t.Errorf("%d readers, Slots %d, Cap %d: %v", readers, slots, attempts, got)
				}
			}
		}
	}
	for width := -2; width <= api.MaxWidth+2; width++ {
		if got := cab.Right(made(1, width, 3, 1)); got != (width >= 1 && width <= api.MaxWidth) {
			t.Errorf("Width %d: %v", width, got)
		}
	}
	for name, change := range map[string]func(o *api.Object){
		"kind 0":         func(o *api.Object) { o.Kind = 0 },
		"kind ring":      func(o *api.Object) { o.Kind = api.Ring },
		"huge width":     func(o *api.Object) { o.Width = math.MaxInt },
		"least width":    func(o *api.Object) { o.Width = math.MinInt },
		"huge slots":     func(o *api.Object) { o.Slots = math.MaxInt },
		"least slots":    func(o *api.Object) { o.Slots = math.MinInt },
		"no cap":         func(o *api.Object) { o.Cap = 0 },
		"huge cap":       func(o *api.Object) { o.Cap = math.MaxInt },
		"start":          func(o *api.Object) { o.Start = 1 },
		"init too short": func(o *api.Object) { o.Init = o.Init[1:] },
		"init too long":  func(o *api.Object) { o.Init = append(o.Init, 1) },
		"no init":        func(o *api.Object) { o.Init = nil },
		"no readers":     func(o *api.Object) { o.Readers = nil },
	} {
		o := made(2, 2, 4, 2)
		change(&o)
		if cab.Right(o) || cab.Size(o) != 0 || len(cab.Lay(o)) != 0 || cab.Bound(o, api.OpRead) != 0 || cab.Bound(o, api.OpWrite) != 0 {
			t.Errorf("%s: right, or with something", name)
		}
		if x, e := cab.Begin(o, 0, api.OpRead, 0, nil); x != nil || e != api.ErrArg {
			t.Errorf("%s: Begin: %d", name, e)
		}
	}
	o := made(2, 2, 4, 2)
	o.Writer, o.Readers = -5, []int{math.MaxInt, -5}
	if !cab.Right(o) {
		t.Error("something is asked of Writer, or of who the readers are")
	}
}

// P14.2, P18.4: Size, Lay and Bound.
func TestSizeLayBound(t *testing.T) {
	for n := 1; n <= api.MaxReaders; n++ {
		for slots := n + 2; slots <= api.MaxSlots; slots++ {
			o := made(n, 1+slots%api.MaxWidth, slots, 1+(slots*n)%api.MaxCap)
			l := cab.Lay(o)
			if size := 1 + n + slots*o.Width; cab.Size(o) != size || len(l) != size {
				t.Fatalf("%v: Size %d, Lay of %d", o, cab.Size(o), len(l))
			}
			for i, w := range l {
				want := uint32(0)
				if i >= n+1 && i < n+1+o.Width {
					want = o.Init[i-n-1]
				}
				if w != want {
					t.Errorf("%v, word %d: %d", o, i, w)
				}
			}
			l[n+1] = 9
			if o.Init[0] != 101 || cab.Lay(o)[n+1] != 101 {
				t.Error("Lay shares memory")
			}
			for op := -1; op <= 6; op++ {
				want := map[int]int{api.OpWrite: o.Width + n + 2, api.OpRead: 3*o.Cap + o.Width + 1}[op]
				if got := cab.Bound(o, op); got != want {
					t.Errorf("Bound of %d, %v: %d, not %d", op, o, got, want)
				}
			}
		}
	}
}

// writing is P18.2.
func writing(o api.Object, rec []uint32) plan {
	n := len(o.Readers)
	return func(l []uint32, then func()) ([]uint32, int) {
		newest := l[0] % uint32(o.Slots)
		then()
		var marks []uint32
		for i := range n {
			marks = append(marks, l[1+i])
			then()
		}
		slot := uint32(0)
		for slot == newest || slices.Contains(marks, slot+1) {
			slot++
		}
		for i, w := range rec {
			l[1+n+int(slot)*o.Width+i] = w
			then()
		}
		l[0] = slot
		return nil, api.Good
	}
}

// reading is P18.3.
func reading(o api.Object, reader int) plan {
	n := len(o.Readers)
	return func(l []uint32, then func()) ([]uint32, int) {
		for range o.Cap {
			slot := l[0] % uint32(o.Slots)
			then()
			l[1+reader] = slot + 1
			then()
			same := l[0]%uint32(o.Slots) == slot
			then()
			if !same {
				continue
			}
			var rec []uint32
			for i := range o.Width {
				rec = append(rec, l[1+n+int(slot)*o.Width+i])
				then()
			}
			l[1+reader] = 0
			return rec, api.Good
		}
		l[1+reader] = 0
		return nil, api.Retry
	}
}

// P14.1, P14.4, P18.1 to P18.4: each step, whatever others do in between.
func TestSteps(t *testing.T) {
	r := rand.New(rand.NewPCG(18, 1))
	ends := map[int]int{}
	for range 5000 {
		n := 1 + r.IntN(api.MaxReaders)
		o := made(n, 1+r.IntN(api.MaxWidth), n+2+r.IntN(api.MaxSlots-n-1), 1+r.IntN(api.MaxCap))
		m, size := stand(t, o), cab.Size(o)
		others := scribbler(r, 1+n, 1+r.IntN(20), uint32(o.Slots+3))
		switch r.IntN(4) {
		case 0:
			others = alone
		case 1:
			// The newest slot is another one each time, so that all attempts fail.
			others = func(l []uint32) { l[0]++ }
		}
		for range 4 {
			rec := record(r, o.Width)
			x := begin(t, o, api.OpWrite, 0, rec...)
			follow(t, x, m, size, writing(o, rec), others)
			if x.Steps() != o.Width+n+2 {
				t.Fatalf("a write of %v: %d steps", o, x.Steps())
			}
			reader := r.IntN(n)
			x = begin(t, o, api.OpRead, reader)
			follow(t, x, m, size, reading(o, reader), others)
			if x.Steps() > 3*o.Cap+o.Width+1 {
				t.Fatalf("a read of %v: %d steps", o, x.Steps())
			}
			_, code := x.Answer()
			ends[code]++
		}
	}
	if len(ends) != 2 || ends[api.Good] < 1000 || ends[api.Retry] < 1000 {
		t.Errorf("the tests see too little: %v", ends)
	}
}

// P18.2: which slot is taken, from the newest one and the marks; marks of no slots stop none from being taken.
func TestSlotTaken(t *testing.T) {
	o := made(2, 1, 4, 1)
	for _, c := range []struct {
		words []uint32
		slot  uint32
	}{
		{[]uint32{0, 0, 0}, 1},
		{[]uint32{0, 2, 3}, 3},
		{[]uint32{0, 3, 2}, 3},
		{[]uint32{1, 0, 0}, 0},
		{[]uint32{3, 1, 2}, 2},
		{[]uint32{3, 1, 1}, 1},
		{[]uint32{4, 1, 1}, 1},
		{[]uint32{7, 1, 2}, 2},
		{[]uint32{1 << 31, 1, 3}, 1},
		{[]uint32{1, 5, 65}, 0},
		{[]uint32{1, math.MaxUint32, 1 << 31}, 0},
	} {
		m := stand(t, o)
		m.Fill(at, c.words)
		do(t, o, m, api.OpWrite, 0, 9)
		if got, _ := m.Read(at); got != c.slot {
			t.Errorf("from %v: slot %d, not %d", c.words, got, c.slot)
		}
	}
}

// P18.3: an attempt fails only if the newest slot is another one by its third step; a mark keeps its slot from being taken.
func TestMark(t *testing.T) {
	o := made(2, 2, 4, 3)
	for between := range 8 {
		m := stand(t, o)
		x := begin(t, o, api.OpRead, 1)
		for range between {
			x.Step(m)
		}
		for n := range uint32(3) {
			do(t, o, m, api.OpWrite, 0, 7+n, 8+n)
		}
		for x.Step(m) {
		}
		want, steps := []uint32{9, 10}, 6
		switch {
		case between == 1 || between == 2:
			steps = 9 // three writes lead from slot 0 to another one
		case between > 2:
			want = o.Init
		}
		if got, code := x.Answer(); !slices.Equal(got, want) || code != api.Good || x.Steps() != steps {
			t.Errorf("writes behind %d steps: %v, %d, %d steps", between, got, code, x.Steps())
		}
		if w, _ := m.Read(at + 2); w != 0 {
			t.Errorf("writes behind %d steps: the mark stays %d", between, w)
		}
	}
}

// P18.3, P18.4: a read makes just so many steps as its attempts that fail ask for, and ends with Retry, its mark gone, when all of them failed.
func TestAttempts(t *testing.T) {
	for width := 1; width <= api.MaxWidth; width++ {
		for attempts := 1; attempts <= api.MaxCap; attempts++ {
			o := made(1, width, 3, attempts)
			for spoilt := range attempts + 1 {
				m := stand(t, o)
				x := begin(t, o, api.OpRead, 0)
				want, code := o.Init, api.Good
				for n := range spoilt {
					x.Step(m)
					want = slices.Repeat([]uint32{uint32(n)}, width)
					do(t, o, m, api.OpWrite, 0, want...)
					x.Step(m)
					x.Step(m)
				}
				steps := 3*spoilt + width + 4
				if spoilt == attempts {
					want, code, steps = nil, api.Retry, 3*attempts+1
				}
				for x.Step(m) {
				}
				if got, how := x.Answer(); !slices.Equal(got, want) || how != code || x.Steps() != steps {
					t.Fatalf("Width %d, Cap %d, %d spoilt: %v, %d, %d steps", width, attempts, spoilt, got, how, x.Steps())
				}
				if w, _ := m.Read(at + 1); w != 0 {
					t.Fatalf("Width %d, Cap %d, %d spoilt: the mark stays %d", width, attempts, spoilt, w)
				}
			}
		}
	}
}

// P18.4: what is read, when nobody writes, is what was written last, or the first record, in one attempt.
func TestAlone(t *testing.T) {
	r := rand.New(rand.NewPCG(18, 2))
	for n := 1; n <= api.MaxReaders; n++ {
		for slots := n + 2; slots <= api.MaxSlots; slots++ {
			o := made(n, 1+r.IntN(api.MaxWidth), slots, 1)
			m, last := stand(t, o), o.Init
			for range 40 {
				if r.IntN(2) == 0 {
					last = record(r, o.Width)
					do(t, o, m, api.OpWrite, 0, last...)
				}
				if got, code, steps := do(t, o, m, api.OpRead, r.IntN(n)); !slices.Equal(got, last) || code != api.Good || steps != o.Width+4 {
					t.Fatalf("read %v, %d, in %d steps, not %v", got, code, steps, last)
				}
			}
		}
	}
}

// The chapter's example.
func TestExample(t *testing.T) {
	o := made(1, 1, 3, 1)
	m := stand(t, o)
	_, _, write := do(t, o, m, api.OpWrite, 0, 7)
	_, _, read := do(t, o, m, api.OpRead, 0)
	if cab.Size(o) != 5 || write != 4 || read != 5 {
		t.Errorf("%d words; a write of %d steps, a read of %d", cab.Size(o), write, read)
	}
}
