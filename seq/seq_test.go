package seq_test

import (
	"math"
	"math/rand/v2"
	"slices"
	"testing"

	"coxswain/api"
	"coxswain/mem"
	"coxswain/seq"
)

// made is an object with records of so many words, the first one 101, 102 and so on, and so many attempts.
func made(width, attempts int) api.Object {
	o := api.Object{Kind: api.Seq, Width: width, Cap: attempts, Readers: []int{1, 2}}
	for i := range max(width, 0) {
		o.Init = append(o.Init, uint32(101+i))
	}
	return o
}

// at is where the objects of these tests stand: behind three words of others.
const at = 3

// stand is a memory in which an object stands among words of others.
func stand(t *testing.T, o api.Object) *mem.Mem {
	t.Helper()
	m, e := mem.New(at + seq.Size(o) + 2)
	if e != api.OK || m.Fill(0, slices.Repeat([]uint32{77}, m.Len())) != api.OK || m.Fill(at, seq.Lay(o)) != api.OK {
		t.Fatalf("%v cannot stand in a memory", o)
	}
	return m
}

// look is all words of a memory.
func look(m *mem.Mem) []uint32 {
	l, _ := m.Look(api.Region{Len: m.Len()})
	return l
}

// begin is an operation on the object of these tests.
func begin(t *testing.T, o api.Object, op, reader int, rec ...uint32) *seq.Op {
	t.Helper()
	x, e := seq.Begin(o, at, op, reader, rec)
	if e != api.OK || x == nil || x.Over() || x.Steps() != 0 {
		t.Fatalf("Begin of %v, %d, %d, %v: %d", o, op, reader, rec, e)
	}
	return x
}

// do makes all steps of an operation, and tells what it read, how it ended, and how many steps it made.
func do(t *testing.T, o api.Object, m *mem.Mem, op, reader int, rec ...uint32) ([]uint32, int, int) {
	t.Helper()
	x := begin(t, o, op, reader, rec...)
	for x.Step(m) {
	}
	if !x.Over() {
		t.Fatalf("an operation %d of %v does not end", op, o)
	}
	read, code := x.Answer()
	return read, code, x.Steps()
}

// plan is an operation in the chapter's words, made on an object's words; between each two steps it calls then.
type plan func(l []uint32, then func()) ([]uint32, int)

// follow makes an operation beside its plan, and holds both against each other behind each step; ahead of each step others do to the object's words what they will.
func follow(t *testing.T, x *seq.Op, m *mem.Mem, size int, p plan, others func(l []uint32)) {
	t.Helper()
	l, steps, before := look(m), 0, m.Steps()
	object := l[at : at+size]
	step := func(over bool) {
		t.Helper()
		steps++
		if c := x.Clone(); !c.Step(m.Clone()) || c.Over() != over || c.Steps() != steps || x.Steps() != steps-1 {
			t.Fatalf("step %d: a clone does otherwise, or is not apart", steps)
		}
		if !x.Step(m) || x.Over() != over || x.Steps() != steps || m.Steps() != before+steps {
			t.Fatalf("step %d: over is %v, not %v; %d steps, %d of the memory", steps, x.Over(), over, x.Steps(), m.Steps()-before)
		}
		if got := look(m); !slices.Equal(got, l) {
			t.Fatalf("behind step %d: %v, not %v", steps, got, l)
		}
	}
	others(object)
	m.Fill(0, l)
	read, code := p(object, func() {
		t.Helper()
		step(false)
		if got, how := x.Answer(); len(got) != 0 || how != api.Good {
			t.Fatalf("behind step %d an answer: %v, %d", steps, got, how)
		}
		others(object)
		m.Fill(0, l)
	})
	step(true)
	if got, how := x.Answer(); !slices.Equal(got, read) || how != code {
		t.Fatalf("ended with %v, %d, not %v, %d", got, how, read, code)
	}
	if x.Step(m) || x.Steps() != steps || m.Steps() != before+steps {
		t.Fatal("a step behind the last one")
	}
}

// alone is nobody else.
func alone([]uint32) {}

// scribbler changes each of the first words, and of those behind them, once in so many times, to what nobody would write, or to a number below most.
func scribbler(r *rand.Rand, first, once int, most uint32) func(l []uint32) {
	return func(l []uint32) {
		for i := range l {
			switch {
			case r.IntN(once) > 0:
			case i >= first || r.IntN(8) == 0:
				l[i] = r.Uint32()
			default:
				l[i] = r.Uint32N(most)
			}
		}
	}
}

// record is a record of so many words.
func record(r *rand.Rand, width int) []uint32 {
	l := make([]uint32, width)
	for i := range l {
		l[i] = r.Uint32()
	}
	return l
}

// P16.1: a nil operation is none.
func TestNone(t *testing.T) {
	var x *seq.Op
	m, _ := mem.New(40)
	if rec, code := x.Answer(); len(rec) != 0 || code != api.Good {
		t.Error("Answer")
	}
	if x.Step(m) || x.Step(nil) || !x.Over() || x.Steps() != 0 || x.Clone() != nil || m.Steps() != 0 {
		t.Error("a nil operation does something")
	}
}

// P14.2: which objects are right, and that those that are not have nothing.
func TestRight(t *testing.T) {
	for width := -2; width <= api.MaxWidth+2; width++ {
		for attempts := -2; attempts <= api.MaxCap+2; attempts++ {
			want := width >= 1 && width <= api.MaxWidth && attempts >= 1 && attempts <= api.MaxCap
			if got := seq.Right(made(width, attempts)); got != want {
				t.Errorf("Width %d, Cap %d: %v", width, attempts, got)
			}
		}
	}
	for readers := range api.MaxReaders + 3 {
		o := made(2, 2)
		o.Readers = make([]int, readers)
		if got := seq.Right(o); got != (readers >= 1 && readers <= api.MaxReaders) {
			t.Errorf("%d readers: %v", readers, got)
		}
	}
	for _, start := range []uint32{0, 1, 2, 3, 1 << 31, 1<<31 + 1, math.MaxUint32 - 1, math.MaxUint32} {
		o := made(2, 2)
		o.Start = start
		if got := seq.Right(o); got != (start%2 == 0) {
			t.Errorf("Start %d: %v", start, got)
		}
	}
	for name, change := range map[string]func(o *api.Object){
		"kind 0":         func(o *api.Object) { o.Kind = 0 },
		"kind ring":      func(o *api.Object) { o.Kind = api.Ring },
		"huge width":     func(o *api.Object) { o.Width = math.MaxInt },
		"least width":    func(o *api.Object) { o.Width = math.MinInt },
		"slots":          func(o *api.Object) { o.Slots = 2 },
		"slots below":    func(o *api.Object) { o.Slots = -1 },
		"no cap":         func(o *api.Object) { o.Cap = 0 },
		"huge cap":       func(o *api.Object) { o.Cap = math.MaxInt },
		"odd start":      func(o *api.Object) { o.Start = 1 },
		"init too short": func(o *api.Object) { o.Init = o.Init[1:] },
		"init too long":  func(o *api.Object) { o.Init = append(o.Init, 1) },
		"no init":        func(o *api.Object) { o.Init = nil },
		"no readers":     func(o *api.Object) { o.Readers = nil },
	} {
		o := made(2, 2)
		change(&o)
		if seq.Right(o) || seq.Size(o) != 0 || len(seq.Lay(o)) != 0 || seq.Bound(o, api.OpRead) != 0 || seq.Bound(o, api.OpWrite) != 0 {
			t.Errorf("%s: right, or with something", name)
		}
		if x, e := seq.Begin(o, 0, api.OpRead, 0, nil); x != nil || e != api.ErrArg {
			t.Errorf("%s: Begin: %d", name, e)
		}
	}
	o := made(2, 2)
	o.Writer, o.Readers = -5, []int{math.MaxInt, -5}
	if !seq.Right(o) {
		t.Error("something is asked of Writer, or of who the readers are")
	}
}

// P14.2, P16.4: Size, Lay and Bound.
func TestSizeLayBound(t *testing.T) {
	for width := 1; width <= api.MaxWidth; width++ {
		for attempts := 1; attempts <= api.MaxCap; attempts++ {
			o := made(width, attempts)
			o.Start = 4000000000
			l := seq.Lay(o)
			if seq.Size(o) != 1+width || len(l) != 1+width || l[0] != o.Start || !slices.Equal(l[1:], o.Init) {
				t.Fatalf("Width %d: Size %d, Lay %v", width, seq.Size(o), l)
			}
			l[1] = 9
			if o.Init[0] != 101 || seq.Lay(o)[1] != 101 {
				t.Error("Lay shares memory")
			}
			for op := -1; op <= 6; op++ {
				want := map[int]int{api.OpWrite: width + 3, api.OpRead: attempts * (width + 2)}[op]
				if got := seq.Bound(o, op); got != want {
					t.Errorf("Bound of %d, Width %d, Cap %d: %d, not %d", op, width, attempts, got, want)
				}
			}
		}
	}
}

// writing is P16.2.
func writing(o api.Object, rec []uint32) plan {
	return func(l []uint32, then func()) ([]uint32, int) {
		count := l[0]
		then()
		l[0] = count + 1
		then()
		for i, w := range rec {
			l[1+i] = w
			then()
		}
		l[0] = count + 2
		return nil, api.Good
	}
}

// reading is P16.3.
func reading(o api.Object) plan {
	return func(l []uint32, then func()) ([]uint32, int) {
		for n := range o.Cap {
			if n > 0 {
				then()
			}
			count := l[0]
			if count%2 == 1 {
				continue
			}
			then()
			var rec []uint32
			for i := range o.Width {
				rec = append(rec, l[1+i])
				then()
			}
			if l[0] == count {
				return rec, api.Good
			}
		}
		return nil, api.Retry
	}
}

// P14.1, P14.4, P16.1 to P16.4: each step, whatever others do in between.
func TestSteps(t *testing.T) {
	r := rand.New(rand.NewPCG(16, 1))
	ends := map[int]int{}
	for range 4000 {
		o := made(1+r.IntN(api.MaxWidth), 1+r.IntN(api.MaxCap))
		o.Start = r.Uint32() &^ 1
		m, size := stand(t, o), seq.Size(o)
		others := scribbler(r, 1, 1+r.IntN(20), 4)
		if r.IntN(4) == 0 {
			others = alone
		}
		for range 4 {
			rec := record(r, o.Width)
			x := begin(t, o, api.OpWrite, 0, rec...)
			follow(t, x, m, size, writing(o, rec), others)
			if x.Steps() != o.Width+3 {
				t.Fatalf("a write of Width %d: %d steps", o.Width, x.Steps())
			}
			x = begin(t, o, api.OpRead, r.IntN(2))
			follow(t, x, m, size, reading(o), others)
			if x.Steps() > o.Cap*(o.Width+2) {
				t.Fatalf("a read of Width %d, Cap %d: %d steps", o.Width, o.Cap, x.Steps())
			}
			_, code := x.Answer()
			ends[code]++
		}
	}
	if len(ends) != 2 || ends[api.Good] < 1000 || ends[api.Retry] < 1000 {
		t.Errorf("the tests see too little: %v", ends)
	}
}

// P16.3, P16.4: a read makes just so many steps as its attempts that fail ask for, and ends with Retry when all of them failed.
func TestAttempts(t *testing.T) {
	for width := 1; width <= api.MaxWidth; width++ {
		for attempts := 1; attempts <= api.MaxCap; attempts++ {
			o := made(width, attempts)
			o.Start = math.MaxUint32 - 1
			for spoilt := range attempts + 1 {
				m := stand(t, o)
				x := begin(t, o, api.OpRead, 0)
				want, code := o.Init, api.Good
				for n := range spoilt {
					x.Step(m)
					want = slices.Repeat([]uint32{uint32(n)}, width)
					do(t, o, m, api.OpWrite, 0, want...)
					for range width + 1 {
						x.Step(m)
					}
				}
				steps := (spoilt + 1) * (width + 2)
				if spoilt == attempts {
					want, code, steps = nil, api.Retry, attempts*(width+2)
				}
				for x.Step(m) {
				}
				if got, how := x.Answer(); !slices.Equal(got, want) || how != code || x.Steps() != steps {
					t.Fatalf("Width %d, Cap %d, %d spoilt: %v, %d, %d steps", width, attempts, spoilt, got, how, x.Steps())
				}
			}
			m := stand(t, o)
			m.Write(at, 7)
			if got, how, steps := do(t, o, m, api.OpRead, 0); len(got) != 0 || how != api.Retry || steps != attempts {
				t.Errorf("Cap %d, a counter that is odd all the while: %v, %d, %d steps", attempts, got, how, steps)
			}
		}
	}
}

// P16.4: what is read, when nobody writes, is what was written last, or the first record, in one attempt; wherever the counter starts.
func TestAlone(t *testing.T) {
	r := rand.New(rand.NewPCG(16, 2))
	for width := 1; width <= api.MaxWidth; width++ {
		for _, start := range []uint32{0, 2, 1<<31 - 2, math.MaxUint32 - 7, math.MaxUint32 - 1} {
			o := made(width, 1)
			o.Start = start
			m, last := stand(t, o), o.Init
			for range 20 {
				if r.IntN(2) == 0 {
					last = record(r, width)
					do(t, o, m, api.OpWrite, 0, last...)
				}
				if got, code, steps := do(t, o, m, api.OpRead, r.IntN(2)); !slices.Equal(got, last) || code != api.Good || steps != width+2 {
					t.Fatalf("read %v, %d, in %d steps, not %v", got, code, steps, last)
				}
			}
		}
	}
}

// The chapter's example: the counter goes round.
func TestExample(t *testing.T) {
	o := made(2, 1)
	o.Start = 4294967294
	m := stand(t, o)
	do(t, o, m, api.OpWrite, 0, 7, 8)
	if got := look(m); !slices.Equal(got[at:at+3], []uint32{0, 7, 8}) {
		t.Errorf("behind a write: %v", got)
	}
}
