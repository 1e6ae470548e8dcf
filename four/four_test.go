package four_test

import (
	"math"
	"math/rand/v2"
	"slices"
	"testing"

	"coxswain/api"
	"coxswain/four"
	"coxswain/mem"
)

// made is an object with records of so many words, the first one 101, 102 and so on.
func made(width int) api.Object {
	o := api.Object{Kind: api.Four, Width: width, Readers: []int{1}}
	for i := range max(width, 0) {
		o.Init = append(o.Init, uint32(101+i))
	}
	return o
}

// at is where the objects of these tests stand: behind three words of others.
const at = 3

// stand is a memory in which an object stands among words of others.
func stand(t *testing.T, o api.Object) *mem.Mem {
	t.Helper()
	m, e := mem.New(at + four.Size(o) + 2)
	if e != api.OK || m.Fill(0, slices.Repeat([]uint32{77}, m.Len())) != api.OK || m.Fill(at, four.Lay(o)) != api.OK {
		t.Fatalf("%v cannot stand in a memory", o)
	}
	return m
}

// look is all words of a memory.
func look(m *mem.Mem) []uint32 {
	l, _ := m.Look(api.Region{Len: m.Len()})
	return l
}

// begin is an operation on the object of these tests.
func begin(t *testing.T, o api.Object, op, reader int, rec ...uint32) *four.Op {
	t.Helper()
	x, e := four.Begin(o, at, op, reader, rec)
	if e != api.OK || x == nil || x.Over() || x.Steps() != 0 {
		t.Fatalf("Begin of %v, %d, %d, %v: %d", o, op, reader, rec, e)
	}
	return x
}

// do makes all steps of an operation, and tells what it read, how it ended, and how many steps it made.
func do(t *testing.T, o api.Object, m *mem.Mem, op, reader int, rec ...uint32) ([]uint32, int, int) {
	t.Helper()
	x := begin(t, o, op, reader, rec...)
	for x.Step(m) {
	}
	if !x.Over() {
		t.Fatalf("an operation %d of %v does not end", op, o)
	}
	read, code := x.Answer()
	return read, code, x.Steps()
}

// plan is an operation in the chapter's words, made on an object's words; between each two steps it calls then.
type plan func(l []uint32, then func()) ([]uint32, int)

// follow makes an operation beside its plan, and holds both against each other behind each step; ahead of each step others do to the object's words what they will.
func follow(t *testing.T, x *four.Op, m *mem.Mem, size int, p plan, others func(l []uint32)) {
	t.Helper()
	l, steps, before := look(m), 0, m.Steps()
	object := l[at : at+size]
	step := func(over bool) {
		t.Helper()
		steps++
		if c := x.Clone(); !c.Step(m.Clone()) || c.Over() != over || c.Steps() != steps || x.Steps() != steps-1 {
			t.Fatalf("step %d: a clone does otherwise, or is not apart", steps)
		}
		if !x.Step(m) || x.Over() != over || x.Steps() != steps || m.Steps() != before+steps {
			t.Fatalf("step %d: over is %v, not %v; %d steps, %d of the memory", steps, x.Over(), over, x.Steps(), m.Steps()-before)
		}
		if got := look(m); !slices.Equal(got, l) {
			t.Fatalf("behind step %d: %v, not %v", steps, got, l)
		}
	}
	others(object)
	m.Fill(0, l)
	read, code := p(object, func() {
		t.Helper()
		step(false)
		if got, how := x.Answer(); len(got) != 0 || how != api.Good {
			t.Fatalf("behind step %d an answer: %v, %d", steps, got, how)
		}
		others(object)
		m.Fill(0, l)
	})
	step(true)
	if got, how := x.Answer(); !slices.Equal(got, read) || how != code {
		t.Fatalf("ended with %v, %d, not %v, %d", got, how, read, code)
	}
	if x.Step(m) || x.Steps() != steps || m.Steps() != before+steps {
		t.Fatal("a step behind the last one")
	}
}

// alone is nobody else.
func alone([]uint32) {}

// scribbler changes each of the first words, and of those behind them, once in so many times, to what nobody would write, or to a number below most.
func scribbler(r *rand.Rand, first, once int, most uint32) func(l []uint32) {
	return func(l []uint32) {
		for i := range l {
			switch {
			case r.IntN(once) > 0:
			case i >= first || r.IntN(8) == 0:
				l[i] = r.Uint32()
			default:
				l[i] = r.Uint32N(most)
			}
		}
	}
}

// record is a record of so many words.
func record(r *rand.Rand, width int) []uint32 {
	l := make([]uint32, width)
	for i := range l {
		l[i] = r.Uint32()
	}
	return l
}

// P14.1: a nil operation is none.
func TestNone(t *testing.T) {
	var x *four.Op
	m, _ := mem.New(40)
	if rec, code := x.Answer(); len(rec) != 0 || code != api.Good {
		t.Error("Answer")
	}
	if x.Step(m) || x.Step(nil) || !x.Over() || x.Steps() != 0 || x.Clone() != nil || m.Steps() != 0 {
		t.Error("a nil operation does something")
	}
}

// P14.2: which objects are right, and that those that are not have nothing.
func TestRight(t *testing.T) {
	for width := -2; width <= api.MaxWidth+2; width++ {
		if got := four.Right(made(width)); got != (width >= 1 && width <= api.MaxWidth) {
			t.Errorf("Width %d: %v", width, got)
		}
	}
	for name, change := range map[string]func(o *api.Object){
		"kind 0":          func(o *api.Object) { o.Kind = 0 },
		"kind chen":       func(o *api.Object) { o.Kind = api.Chen },
		"kind fifo":       func(o *api.Object) { o.Kind = api.Fifo },
		"huge width":      func(o *api.Object) { o.Width = math.MaxInt },
		"least width":     func(o *api.Object) { o.Width = math.MinInt },
		"slots":           func(o *api.Object) { o.Slots = 1 },
		"slots below":     func(o *api.Object) { o.Slots = -1 },
		"cap":             func(o *api.Object) { o.Cap = 1 },
		"cap below":       func(o *api.Object) { o.Cap = -1 },
		"start":           func(o *api.Object) { o.Start = 1 },
		"init too short":  func(o *api.Object) { o.Init = o.Init[1:] },
		"init too long":   func(o *api.Object) { o.Init = append(o.Init, 1) },
		"no init":         func(o *api.Object) { o.Init = nil },
		"no readers":      func(o *api.Object) { o.Readers = nil },
		"no readers, too": func(o *api.Object) { o.Readers = []int{} },
		"two readers":     func(o *api.Object) { o.Readers = []int{1, 2} },
	} {
		o := made(2)
		change(&o)
		if four.Right(o) || four.Size(o) != 0 || len(four.Lay(o)) != 0 || four.Bound(o, api.OpRead) != 0 || four.Bound(o, api.OpWrite) != 0 {
			t.Errorf("%s: right, or with something", name)
		}
		if x, e := four.Begin(o, 0, api.OpRead, 0, nil); x != nil || e != api.ErrArg {
			t.Errorf("%s: Begin: %d", name, e)
		}
	}
	o := made(2)
	o.Writer, o.Readers = -5, []int{math.MaxInt}
	if !four.Right(o) {
		t.Error("something is asked of Writer, or of who the readers are")
	}
}

// P14.2, P14.7: Size, Lay and Bound.
func TestSizeLayBound(t *testing.T) {
	for width := 1; width <= api.MaxWidth; width++ {
		o := made(width)
		l := four.Lay(o)
		if four.Size(o) != 4+4*width || len(l) != 4+4*width {
			t.Fatalf("Width %d: Size %d, Lay of %d", width, four.Size(o), len(l))
		}
		for i, w := range l {
			want := uint32(0)
			if i >= 4 && i < 4+width {
				want = o.Init[i-4]
			}
			if w != want {
				t.Errorf("Width %d, word %d: %d", width, i, w)
			}
		}
		l[4] = 9
		if o.Init[0] != 101 || four.Lay(o)[4] != 101 {
			t.Error("Lay shares memory")
		}
		for op := -1; op <= 6; op++ {
			want := map[int]int{api.OpWrite: width + 4, api.OpRead: width + 3}[op]
			if got := four.Bound(o, op); got != want {
				t.Errorf("Bound of %d, Width %d: %d, not %d", op, width, got, want)
			}
		}
	}
}

// writing is P14.5.
func writing(o api.Object, rec []uint32) plan {
	return func(l []uint32, then func()) ([]uint32, int) {
		pair := 1 - l[1]%2
		then()
		index := 1 - l[2+pair]%2
		then()
		for i, w := range rec {
			l[4+int(2*pair+index)*o.Width+i] = w
			then()
		}
		l[2+pair] = index
		then()
		l[0] = pair
		return nil, api.Good
	}
}

// reading is P14.6.
func reading(o api.Object) plan {
	return func(l []uint32, then func()) ([]uint32, int) {
		pair := l[0] % 2
		then()
		l[1] = pair
		then()
		index := l[2+pair] % 2
		var rec []uint32
		for i := range o.Width {
			then()
			rec = append(rec, l[4+int(2*pair+index)*o.Width+i])
		}
		return rec, api.Good
	}
}

// P14.1, P14.4 to P14.7: each step, whatever others do in between.
func TestSteps(t *testing.T) {
	r := rand.New(rand.NewPCG(14, 1))
	for n := range 3000 {
		o := made(1 + n%api.MaxWidth)
		m, size := stand(t, o), four.Size(o)
		others := scribbler(r, 4, 1+r.IntN(8), 4)
		if n%4 == 0 {
			others = alone
		}
		for range 4 {
			rec := record(r, o.Width)
			x := begin(t, o, api.OpWrite, 0, rec...)
			follow(t, x, m, size, writing(o, rec), others)
			if x.Steps() != o.Width+4 {
				t.Fatalf("a write of Width %d: %d steps", o.Width, x.Steps())
			}
			x = begin(t, o, api.OpRead, 0)
			follow(t, x, m, size, reading(o), others)
			if x.Steps() != o.Width+3 {
				t.Fatalf("a read of Width %d: %d steps", o.Width, x.Steps())
			}
		}
	}
}

// P14.7: what is read, when nobody writes, is what was written last, or the first record.
func TestAlone(t *testing.T) {
	r := rand.New(rand.NewPCG(14, 2))
	for width := 1; width <= api.MaxWidth; width++ {
		o := made(width)
		m, last := stand(t, o), o.Init
		for range 40 {
			if r.IntN(2) == 0 {
				last = record(r, width)
				do(t, o, m, api.OpWrite, 0, last...)
			}
			if got, code, _ := do(t, o, m, api.OpRead, 0); !slices.Equal(got, last) || code != api.Good {
				t.Fatalf("read %v, %d, not %v", got, code, last)
			}
		}
	}
}

// The chapter's example, and both ways on from there.
func TestExample(t *testing.T) {
	o := api.Object{Kind: api.Four, Width: 1, Init: []uint32{5}, Readers: []int{1}}
	m, _ := mem.New(8)
	m.Fill(0, four.Lay(o))
	for _, c := range []struct {
		op   int
		rec  []uint32
		want []uint32
	}{
		{api.OpWrite, []uint32{7}, []uint32{1, 0, 0, 1, 5, 0, 0, 7}},
		{api.OpWrite, []uint32{8}, []uint32{1, 0, 0, 0, 5, 0, 8, 7}},
		{api.OpRead, nil, []uint32{1, 1, 0, 0, 5, 0, 8, 7}},
		{api.OpWrite, []uint32{9}, []uint32{0, 1, 1, 0, 5, 9, 8, 7}},
	} {
		x, e := four.Begin(o, 0, c.op, 0, c.rec)
		for x.Step(m) {
		}
		if got := look(m); e != api.OK || !slices.Equal(got, c.want) {
			t.Errorf("behind %d %v: %v, not %v", c.op, c.rec, got, c.want)
		}
	}
}
