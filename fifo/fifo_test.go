package fifo_test

import (
	"math"
	"math/rand/v2"
	"slices"
	"testing"

	"coxswain/api"
	"coxswain/fifo"
	"coxswain/mem"
)

// made is a queue with records of so many words, and so many slots.
func made(width, slots int) api.Object {
	return api.Object{Kind: api.Fifo, Width: width, Slots: slots, Readers: []int{1}}
}

// modulus is where the counters wrap.
func modulus(o api.Object) uint32 { return 2 * uint32(o.Slots) }

// at is where the objects of these tests stand: behind three words of others.
const at = 3

// stand is a memory in which an object stands among words of others.
func stand(t *testing.T, o api.Object) *mem.Mem {
	t.Helper()
	m, e := mem.New(at + fifo.Size(o) + 2)
	if e != api.OK || m.Fill(0, slices.Repeat([]uint32{77}, m.Len())) != api.OK || m.Fill(at, fifo.Lay(o)) != api.OK {
		t.Fatalf("%v cannot stand in a memory", o)
	}
	return m
}

// look is all words of a memory.
func look(m *mem.Mem) []uint32 {
	l, _ := m.Look(api.Region{Len: m.Len()})
	return l
}

// begin is an operation on the object of these tests.
func begin(t *testing.T, o api.Object, op, reader int, rec ...uint32) *fifo.Op {
	t.Helper()
	x, e := fifo.Begin(o, at, op, reader, rec)
	if e != api.OK || x == nil || x.Over() || x.Steps() != 0 {
		t.Fatalf("Begin of %v, %d, %d, %v: %d", o, op, reader, rec, e)
	}
	return x
}

// do makes all steps of an operation, and tells what it read, how it ended, and how many steps it made.
func do(t *testing.T, o api.Object, m *mem.Mem, op, reader int, rec ...uint32) ([]uint32, int, int) {
	t.Helper()
	x := begin(t, o, op, reader, rec...)
	for x.Step(m) {
	}
	if !x.Over() {
		t.Fatalf("an operation %d of %v does not end", op, o)
	}
	read, code := x.Answer()
	return read, code, x.Steps()
}

// plan is an operation in the chapter's words, made on an object's words; between each two steps it calls then.
type plan func(l []uint32, then func()) ([]uint32, int)

// follow makes an operation beside its plan, and holds both against each other behind each step; ahead of each step others do to the object's words what they will.
func follow(t *testing.T, x *fifo.Op, m *mem.Mem, size int, p plan, others func(l []uint32)) {
	t.Helper()
	l, steps, before := look(m), 0, m.Steps()
	object := l[at : at+size]
	step := func(over bool) {
		t.Helper()
		steps++
		if c := x.Clone(); !c.Step(m.Clone()) || c.Over() != over || c.Steps() != steps || x.Steps() != steps-1 {
			t.Fatalf("step %d: a clone does otherwise, or is not apart", steps)
		}
		if !x.Step(m) || x.Over() != over || x.Steps() != steps || m.Steps() != before+steps {
			t.Fatalf("step %d: over is %v, not %v; %d steps, %d of the memory", steps, x.Over(), over, x.Steps(), m.Steps()-before)
		}
		if got := look(m); !slices.Equal(got, l) {
			t.Fatalf("behind step %d: %v, not %v", steps, got, l)
		}
	}
	others(object)
	m.Fill(0, l)
	read, code := p(object, func() {
		t.Helper()
		step(false)
		if got, how := x.Answer(); len(got) != 0 || how != api.Good {
			t.Fatalf("behind step %d an answer: %v, %d", steps, got, how)
		}
		others(object)
		m.Fill(0, l)
	})
	step(true)
	if got, how := x.Answer(); !slices.Equal(got, read) || how != code {
		t.Fatalf("ended with %v, %d, not %v, %d", got, how, read, code)
	}
	if x.Step(m) || x.Steps() != steps || m.Steps() != before+steps {
		t.Fatal("a step behind the last one")
	}
}

// alone is nobody else.
func alone([]uint32) {}

// scribbler changes each of the first words, and of those behind them, once in so many times, to what nobody would write, or to a number below most.
func scribbler(r *rand.Rand, first, once int, most uint32) func(l []uint32) {
	return func(l []uint32) {
		for i := range l {
			switch {
			case r.IntN(once) > 0:
			case i >= first || r.IntN(8) == 0:
				l[i] = r.Uint32()
			default:
				l[i] = r.Uint32N(most)
			}
		}
	}
}

// record is a record of so many words.
func record(r *rand.Rand, width int) []uint32 {
	l := make([]uint32, width)
	for i := range l {
		l[i] = r.Uint32()
	}
	return l
}

// P19.1: a nil operation is none.
func TestNone(t *testing.T) {
	var x *fifo.Op
	m, _ := mem.New(40)
	if rec, code := x.Answer(); len(rec) != 0 || code != api.Good {
		t.Error("Answer")
	}
	if x.Step(m) || x.Step(nil) || !x.Over() || x.Steps() != 0 || x.Clone() != nil || m.Steps() != 0 {
		t.Error("a nil operation does something")
	}
}

// P14.2: which objects are right, and that those that are not have nothing.
func TestRight(t *testing.T) {
	for width := -2; width <= api.MaxWidth+2; width++ {
		for slots := -2; slots <= api.MaxSlots+2; slots++ {
			want := width >= 1 && width <= api.MaxWidth && slots >= 1 && slots <= api.MaxSlots
			if got := fifo.Right(made(width, slots)); got != want {
				t.Errorf("Width %d, Slots %d: %v", width, slots, got)
			}
		}
	}
	for slots := 1; slots <= api.MaxSlots; slots++ {
		o := made(2, slots)
		for start, want := range map[uint32]bool{0: true, modulus(o) - 1: true, modulus(o): false, modulus(o) + 1: false, math.MaxUint32: false} {
			o.Start = start
			if got := fifo.Right(o); got != want {
				t.Errorf("Slots %d, Start %d: %v", slots, start, got)
			}
		}
	}
	for name, change := range map[string]func(o *api.Object){
		"kind 0":          func(o *api.Object) { o.Kind = 0 },
		"kind 7":          func(o *api.Object) { o.Kind = 7 },
		"kind four":       func(o *api.Object) { o.Kind = api.Four },
		"huge width":      func(o *api.Object) { o.Width = math.MaxInt },
		"least width":     func(o *api.Object) { o.Width = math.MinInt },
		"no slots":        func(o *api.Object) { o.Slots = 0 },
		"huge slots":      func(o *api.Object) { o.Slots = math.MaxInt },
		"cap":             func(o *api.Object) { o.Cap = 1 },
		"cap below":       func(o *api.Object) { o.Cap = -1 },
		"start":           func(o *api.Object) { o.Start = 4 },
		"init":            func(o *api.Object) { o.Init = []uint32{1, 2} },
		"short init":      func(o *api.Object) { o.Init = []uint32{1} },
		"no readers":      func(o *api.Object) { o.Readers = nil },
		"no readers, too": func(o *api.Object) { o.Readers = []int{} },
		"two readers":     func(o *api.Object) { o.Readers = []int{1, 2} },
	} {
		o := made(2, 2)
		change(&o)
		if fifo.Right(o) || fifo.Size(o) != 0 || len(fifo.Lay(o)) != 0 || fifo.Bound(o, api.OpPut) != 0 || fifo.Bound(o, api.OpTake) != 0 {
			t.Errorf("%s: right, or with something", name)
		}
		if x, e := fifo.Begin(o, 0, api.OpTake, 0, nil); x != nil || e != api.ErrArg {
			t.Errorf("%s: Begin: %d", name, e)
		}
	}
	o := made(2, 2)
	o.Init, o.Writer, o.Readers = []uint32{}, -5, []int{math.MaxInt}
	if !fifo.Right(o) {
		t.Error("something is asked of Writer, or of who the reader is, or an empty Init is not as none")
	}
}

// P14.2, P19.4: Size, Lay and Bound.
func TestSizeLayBound(t *testing.T) {
	for width := 1; width <= api.MaxWidth; width++ {
		for slots := 1; slots <= api.MaxSlots; slots++ {
			o := made(width, slots)
			o.Start = modulus(o) - 1
			want := make([]uint32, 2+slots*width)
			want[0], want[1] = o.Start, o.Start
			if l := fifo.Lay(o); fifo.Size(o) != len(want) || !slices.Equal(l, want) {
				t.Errorf("Width %d, Slots %d: Size %d, Lay %v", width, slots, fifo.Size(o), l)
			}
			for op := -1; op <= 6; op++ {
				want := map[int]int{api.OpPut: width + 3, api.OpTake: width + 3}[op]
				if got := fifo.Bound(o, op); got != want {
					t.Errorf("Bound of %d, Width %d: %d, not %d", op, width, got, want)
				}
			}
		}
	}
}

// gap is how far it is from one counter to another one.
func gap(o api.Object, from, to uint32) uint32 {
	return (to%modulus(o) + modulus(o) - from%modulus(o)) % modulus(o)
}

// putting is P19.2.
func putting(o api.Object, rec []uint32) plan {
	return func(l []uint32, then func()) ([]uint32, int) {
		count := l[1] % modulus(o)
		then()
		if gap(o, l[0], count) >= uint32(o.Slots) {
			return nil, api.Full
		}
		then()
		for i, w := range rec {
			l[2+int(count%uint32(o.Slots))*o.Width+i] = w
			then()
		}
		l[1] = (count + 1) % modulus(o)
		return nil, api.Good
	}
}

// taking is P19.3.
func taking(o api.Object) plan {
	return func(l []uint32, then func()) ([]uint32, int) {
		count := l[0] % modulus(o)
		then()
		if l[1]%modulus(o) == count {
			return nil, api.Empty
		}
		then()
		var rec []uint32
		for i := range o.Width {
			rec = append(rec, l[2+int(count%uint32(o.Slots))*o.Width+i])
			then()
		}
		l[0] = (count + 1) % modulus(o)
		return rec, api.Good
	}
}

// P14.1, P14.4, P19.1 to P19.4: each step, whatever others do in between.
func TestSteps(t *testing.T) {
	r := rand.New(rand.NewPCG(19, 1))
	ends := map[int]int{}
	for range 4000 {
		o := made(1+r.IntN(api.MaxWidth), 1+r.IntN(api.MaxSlots))
		o.Start = r.Uint32N(modulus(o))
		m, size := stand(t, o), fifo.Size(o)
		others := scribbler(r, 2, 1+r.IntN(12), 2*modulus(o))
		if r.IntN(4) == 0 {
			others = alone
		}
		for range 12 {
			var x *fifo.Op
			if r.IntN(2) == 0 {
				rec := record(r, o.Width)
				x = begin(t, o, api.OpPut, 0, rec...)
				follow(t, x, m, size, putting(o, rec), others)
			} else {
				x = begin(t, o, api.OpTake, 0)
				follow(t, x, m, size, taking(o), others)
			}
			_, code := x.Answer()
			steps := o.Width + 3
			if code != api.Good {
				steps = 2
			}
			if x.Steps() != steps {
				t.Fatalf("ended with %d, Width %d: %d steps", code, o.Width, x.Steps())
			}
			ends[code]++
		}
	}
	if len(ends) != 3 || ends[api.Good] < 1000 || ends[api.Full] < 1000 || ends[api.Empty] < 1000 {
		t.Errorf("the tests see too little: %v", ends)
	}
}

// P19.4: one operation behind the other: what is taken is what was put, in order, Slots at most at a time, wherever the counters start.
func TestOrder(t *testing.T) {
	r := rand.New(rand.NewPCG(19, 2))
	for slots := 1; slots <= api.MaxSlots; slots++ {
		for start := range 2 * uint32(slots) {
			o := made(1+r.IntN(api.MaxWidth), slots)
			o.Start = start
			m := stand(t, o)
			var queue [][]uint32
			for n := range 8 * slots {
				// Whole runs of one kind, so that it is full, and empty, at times.
				if n/slots%3 != 1 && r.IntN(3) > 0 || n < slots {
					rec := record(r, o.Width)
					want := api.Full
					if len(queue) < slots {
						queue, want = append(queue, rec), api.Good
					}
					if got, code, _ := do(t, o, m, api.OpPut, 0, rec...); len(got) != 0 || code != want {
						t.Fatalf("Slots %d, Start %d: put: %v, %d, not %d", slots, start, got, code, want)
					}
					continue
				}
				var first []uint32
				want := api.Empty
				if len(queue) > 0 {
					first, queue, want = queue[0], queue[1:], api.Good
				}
				if got, code, _ := do(t, o, m, api.OpTake, 0); !slices.Equal(got, first) || code != want {
					t.Fatalf("Slots %d, Start %d: take: %v, %d, not %v, %d", slots, start, got, code, first, want)
				}
			}
		}
	}
}

// P19.2: full is all that is at least Slots, also more than a queue ever has.
func TestFull(t *testing.T) {
	for slots := 1; slots <= api.MaxSlots; slots++ {
		o := made(1, slots)
		for head := range modulus(o) {
			for tail := range modulus(o) {
				m := stand(t, o)
				m.Fill(at, []uint32{head, tail})
				want := api.Good
				if gap(o, head, tail) >= uint32(slots) {
					want = api.Full
				}
				if _, code, _ := do(t, o, m, api.OpPut, 0, 5); code != want {
					t.Fatalf("Slots %d, head %d, tail %d: %d, not %d", slots, head, tail, code, want)
				}
			}
		}
	}
}

// The chapter's example.
func TestExample(t *testing.T) {
	o := made(1, 1)
	m := stand(t, o)
	for _, c := range []struct {
		op   int
		rec  []uint32
		want []uint32
		code int
	}{
		{api.OpPut, []uint32{7}, nil, api.Good},
		{api.OpPut, []uint32{8}, nil, api.Full},
		{api.OpTake, nil, []uint32{7}, api.Good},
		{api.OpTake, nil, nil, api.Empty},
	} {
		if got, code, _ := do(t, o, m, c.op, 0, c.rec...); !slices.Equal(got, c.want) || code != c.code {
			t.Errorf("%d %v: %v, %d, not %v, %d", c.op, c.rec, got, code, c.want, c.code)
		}
	}
}
