package chen_test

import (
	"math"
	"math/rand/v2"
	"slices"
	"testing"

	"coxswain/api"
	"coxswain/chen"
	"coxswain/mem"
)

// made is an object of so many readers, with records of so many words, the first one 101, 102 and so on.
func made(readers, width int) api.Object {
	o := api.Object{Kind: api.Chen, Width: width, Readers: make([]int, readers)}
	for i := range max(width, 0) {
		o.Init = append(o.Init, uint32(101+i))
	}
	return o
}

// at is where the objects of these tests stand: behind three words of others.
const at = 3

// stand is a memory in which an object stands among words of others.
func stand(t *testing.T, o api.Object) *mem.Mem {
	t.Helper()
	m, e := mem.New(at + chen.Size(o) + 2)
	if e != api.OK || m.Fill(0, slices.Repeat([]uint32{77}, m.Len())) != api.OK || m.Fill(at, chen.Lay(o)) != api.OK {
		t.Fatalf("%v cannot stand in a memory", o)
	}
	return m
}

// look is all words of a memory.
func look(m *mem.Mem) []uint32 {
	l, _ := m.Look(api.Region{Len: m.Len()})
	return l
}

// begin is an operation on the object of these tests.
func begin(t *testing.T, o api.Object, op, reader int, rec ...uint32) *chen.Op {
	t.Helper()
	x, e := chen.Begin(o, at, op, reader, rec)
	if e != api.OK || x == nil || x.Over() || x.Steps() != 0 {
		t.Fatalf("Begin of %v, %d, %d, %v: %d", o, op, reader, rec, e)
	}
	return x
}

// do makes all steps of an operation, and tells what it read, how it ended, and how many steps it made.
func do(t *testing.T, o api.Object, m *mem.Mem, op, reader int, rec ...uint32) ([]uint32, int, int) {
	t.Helper()
	x := begin(t, o, op, reader, rec...)
	for x.Step(m) {
	}
	if !x.Over() {
		t.Fatalf("an operation %d of %v does not end", op, o)
	}
	read, code := x.Answer()
	return read, code, x.Steps()
}

// plan is an operation in the chapter's words, made on an object's words; between each two steps it calls then.
type plan func(l []uint32, then func()) ([]uint32, int)

// follow makes an operation beside its plan, and holds both against each other behind each step; ahead of each step others do to the object's words what they will.
func follow(t *testing.T, x *chen.Op, m *mem.Mem, size int, p plan, others func(l []uint32)) {
	t.Helper()
	l, steps, before := look(m), 0, m.Steps()
	object := l[at : at+size]
	step := func(over bool) {
		t.Helper()
		steps++
		if c := x.Clone(); !c.Step(m.Clone()) || c.Over() != over || c.Steps() != steps || x.Steps() != steps-1 {
			t.Fatalf("step %d: a clone does otherwise, or is not apart", steps)
		}
		if !x.Step(m) || x.Over() != over || x.Steps() != steps || m.Steps() != before+steps {
			t.Fatalf("step %d: over is %v, not %v; %d steps, %d of the memory", steps, x.Over(), over, x.Steps(), m.Steps()-before)
		}
		if got := look(m); !slices.Equal(got, l) {
			t.Fatalf("behind step %d: %v, not %v", steps, got, l)
		}
	}
	others(object)
	m.Fill(0, l)
	read, code := p(object, func() {
		t.Helper()
		step(false)
		if got, how := x.Answer(); len(got) != 0 || how != api.Good {
			t.Fatalf("behind step %d an answer: %v, %d", steps, got, how)
		}
		others(object)
		m.Fill(0, l)
	})
	step(true)
	if got, how := x.Answer(); !slices.Equal(got, read) || how != code {
		t.Fatalf("ended with %v, %d, not %v, %d", got, how, read, code)
	}
	if x.Step(m) || x.Steps() != steps || m.Steps() != before+steps {
		t.Fatal("a step behind the last one")
	}
}

// alone is nobody else.
func alone([]uint32) {}

// scribbler changes each of the first words, and of those behind them, once in so many times, to what nobody would write, or to a number below most.
func scribbler(r *rand.Rand, first, once int, most uint32) func(l []uint32) {
	return func(l []uint32) {
		for i := range l {
			switch {
			case r.IntN(once) > 0:
			case i >= first || r.IntN(8) == 0:
				l[i] = r.Uint32()
			default:
				l[i] = r.Uint32N(most)
			}
		}
	}
}

// record is a record of so many words.
func record(r *rand.Rand, width int) []uint32 {
	l := make([]uint32, width)
	for i := range l {
		l[i] = r.Uint32()
	}
	return l
}

// P15.1: a nil operation is none.
func TestNone(t *testing.T) {
	var x *chen.Op
	m, _ := mem.New(40)
	if rec, code := x.Answer(); len(rec) != 0 || code != api.Good {
		t.Error("Answer")
	}
	if x.Step(m) || x.Step(nil) || !x.Over() || x.Steps() != 0 || x.Clone() != nil || m.Steps() != 0 {
		t.Error("a nil operation does something")
	}
}

// P14.2: which objects are right, and that those that are not have nothing.
func TestRight(t *testing.T) {
	for readers := 0; readers <= api.MaxReaders+2; readers++ {
		for width := -2; width <= api.MaxWidth+2; width++ {
			want := width >= 1 && width <= api.MaxWidth && readers >= 1 && readers <= api.MaxReaders
			if got := chen.Right(made(readers, width)); got != want {
				t.Errorf("%d readers, Width %d: %v", readers, width, got)
			}
		}
	}
	for name, change := range map[string]func(o *api.Object){
		"kind 0":         func(o *api.Object) { o.Kind = 0 },
		"kind four":      func(o *api.Object) { o.Kind, o.Readers = api.Four, []int{1} },
		"huge width":     func(o *api.Object) { o.Width = math.MaxInt },
		"least width":    func(o *api.Object) { o.Width = math.MinInt },
		"slots":          func(o *api.Object) { o.Slots = 4 },
		"slots below":    func(o *api.Object) { o.Slots = -1 },
		"cap":            func(o *api.Object) { o.Cap = 1 },
		"cap below":      func(o *api.Object) { o.Cap = -1 },
		"start":          func(o *api.Object) { o.Start = 1 },
		"init too short": func(o *api.Object) { o.Init = o.Init[1:] },
		"init too long":  func(o *api.Object) { o.Init = append(o.Init, 1) },
		"no init":        func(o *api.Object) { o.Init = nil },
		"no readers":     func(o *api.Object) { o.Readers = nil },
	} {
		o := made(2, 2)
		change(&o)
		if chen.Right(o) || chen.Size(o) != 0 || len(chen.Lay(o)) != 0 || chen.Bound(o, api.OpRead) != 0 || chen.Bound(o, api.OpWrite) != 0 {
			t.Errorf("%s: right, or with something", name)
		}
		if x, e := chen.Begin(o, 0, api.OpRead, 0, nil); x != nil || e != api.ErrArg {
			t.Errorf("%s: Begin: %d", name, e)
		}
	}
	o := made(2, 2)
	o.Writer, o.Readers = -5, []int{math.MaxInt, -5}
	if !chen.Right(o) {
		t.Error("something is asked of Writer, or of who the readers are")
	}
}

// P14.2, P15.4: Size, Lay and Bound.
func TestSizeLayBound(t *testing.T) {
	for n := 1; n <= api.MaxReaders; n++ {
		for width := 1; width <= api.MaxWidth; width++ {
			o := made(n, width)
			l := chen.Lay(o)
			if size := 1 + n + (n+2)*width; chen.Size(o) != size || len(l) != size {
				t.Fatalf("%d readers, Width %d: Size %d, Lay of %d", n, width, chen.Size(o), len(l))
			}
			for i, w := range l {
				want := uint32(0)
				if i >= n+1 && i < n+1+width {
					want = o.Init[i-n-1]
				}
				if w != want {
					t.Errorf("%d readers, Width %d, word %d: %d", n, width, i, w)
				}
			}
			l[n+1] = 9
			if o.Init[0] != 101 || chen.Lay(o)[n+1] != 101 {
				t.Error("Lay shares memory")
			}
			for op := -1; op <= 6; op++ {
				want := map[int]int{api.OpWrite: width + 2*n + 2, api.OpRead: width + 4}[op]
				if got := chen.Bound(o, op); got != want {
					t.Errorf("Bound of %d, %d readers, Width %d: %d, not %d", op, n, width, got, want)
				}
			}
		}
	}
}

// writing is P15.2.
func writing(o api.Object, rec []uint32) plan {
	n := len(o.Readers)
	none := uint32(n + 2)
	return func(l []uint32, then func()) ([]uint32, int) {
		found := []uint32{l[0]}
		then()
		for i := range n {
			found = append(found, l[1+i])
			then()
		}
		slot := uint32(0)
		for slices.Contains(found, slot) {
			slot++
		}
		for i, w := range rec {
			l[1+n+int(slot)*o.Width+i] = w
			then()
		}
		l[0] = slot
		for i := range n {
			then()
			if l[1+i] == none {
				l[1+i] = slot
			}
		}
		return nil, api.Good
	}
}

// reading is P15.3.
func reading(o api.Object, reader int) plan {
	n := len(o.Readers)
	none := uint32(n + 2)
	return func(l []uint32, then func()) ([]uint32, int) {
		l[1+reader] = none
		then()
		found := l[0]
		then()
		if l[1+reader] == none {
			l[1+reader] = found
		}
		then()
		slot := int(l[1+reader] % none)
		var rec []uint32
		for i := range o.Width {
			then()
			rec = append(rec, l[1+n+slot*o.Width+i])
		}
		return rec, api.Good
	}
}

// P14.1, P14.4, P15.1 to P15.4: each step, whatever others do in between.
func TestSteps(t *testing.T) {
	r := rand.New(rand.NewPCG(15, 1))
	for i := range 4000 {
		n := 1 + i%api.MaxReaders
		o := made(n, 1+r.IntN(api.MaxWidth))
		m, size := stand(t, o), chen.Size(o)
		others := scribbler(r, 1+n, 1+r.IntN(12), uint32(n+4))
		if r.IntN(4) == 0 {
			others = alone
		}
		for range 4 {
			rec := record(r, o.Width)
			x := begin(t, o, api.OpWrite, 0, rec...)
			follow(t, x, m, size, writing(o, rec), others)
			if x.Steps() != o.Width+2*n+2 {
				t.Fatalf("a write, %d readers, Width %d: %d steps", n, o.Width, x.Steps())
			}
			reader := r.IntN(n)
			x = begin(t, o, api.OpRead, reader)
			follow(t, x, m, size, reading(o, reader), others)
			if x.Steps() != o.Width+4 {
				t.Fatalf("a read of Width %d: %d steps", o.Width, x.Steps())
			}
		}
	}
}

// P15.2: words that are no slots, and such as differ from a slot by 64 or 2^32, stop no slot from being taken.
func TestNoSlots(t *testing.T) {
	o := made(2, 1)
	for _, c := range []struct {
		words []uint32
		slot  uint32
	}{
		{[]uint32{4, 4, 4}, 0},
		{[]uint32{64, 68, math.MaxUint32}, 0},
		{[]uint32{0, 65, 1 << 31}, 1},
		{[]uint32{1, 0, 2}, 3},
		{[]uint32{2, 1, 0}, 3},
		{[]uint32{3, 2, 0}, 1},
		{[]uint32{3, 3, 3}, 0},
	} {
		m := stand(t, o)
		m.Fill(at, c.words)
		do(t, o, m, api.OpWrite, 0, 9)
		if got, _ := m.Read(at); got != c.slot {
			t.Errorf("from %v: slot %d, not %d", c.words, got, c.slot)
		}
	}
}

// P15.2, P15.3: a write that comes in between gives its slot to the reader who says none, and its record is read.
func TestWriterHelps(t *testing.T) {
	o := made(2, 2)
	for between := range 7 {
		m := stand(t, o)
		x := begin(t, o, api.OpRead, 1)
		for range between {
			x.Step(m)
		}
		do(t, o, m, api.OpWrite, 0, 7, 8)
		for x.Step(m) {
		}
		want := []uint32{7, 8}
		if between > 2 {
			want = o.Init
		}
		if got, code := x.Answer(); !slices.Equal(got, want) || code != api.Good {
			t.Errorf("a write behind %d steps: %v, %d", between, got, code)
		}
	}
}

// P15.4: what is read, when nobody writes, is what was written last, or the first record.
func TestAlone(t *testing.T) {
	r := rand.New(rand.NewPCG(15, 2))
	for i := range 4 * api.MaxReaders * api.MaxWidth {
		n, width := 1+i%api.MaxReaders, 1+i/api.MaxReaders%api.MaxWidth
		o := made(n, width)
		m, last := stand(t, o), o.Init
		for range 30 {
			if r.IntN(2) == 0 {
				last = record(r, width)
				do(t, o, m, api.OpWrite, 0, last...)
			}
			if got, code, _ := do(t, o, m, api.OpRead, r.IntN(n)); !slices.Equal(got, last) || code != api.Good {
				t.Fatalf("read %v, %d, not %v", got, code, last)
			}
		}
	}
}

// The chapter's example.
func TestExample(t *testing.T) {
	o := api.Object{Kind: api.Chen, Width: 1, Init: []uint32{5}, Readers: []int{1}}
	m, _ := mem.New(5)
	m.Fill(0, chen.Lay(o))
	x, _ := chen.Begin(o, 0, api.OpWrite, 0, []uint32{7})
	for x.Step(m) {
	}
	y, _ := chen.Begin(o, 0, api.OpRead, 0, nil)
	for y.Step(m) {
	}
	if chen.Size(o) != 5 || x.Steps() != 5 || y.Steps() != 5 || !slices.Equal(look(m), []uint32{1, 1, 5, 7, 0}) {
		t.Errorf("%d words, %d and %d steps, %v", chen.Size(o), x.Steps(), y.Steps(), look(m))
	}
}
