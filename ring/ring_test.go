package ring_test

import (
	"math"
	"math/rand/v2"
	"slices"
	"testing"

	"coxswain/api"
	"coxswain/mem"
	"coxswain/ring"
)

// made is an object with records of so many words, the first one 101, 102 and so on, so many slots, and attempts.
func made(width, slots, attempts int) api.Object {
	o := api.Object{Kind: api.Ring, Width: width, Slots: slots, Cap: attempts, Readers: []int{1, 2}}
	for i := range max(width, 0) {
		o.Init = append(o.Init, uint32(101+i))
	}
	return o
}

// modulus is where the counter wraps.
func modulus(o api.Object) uint32 { return uint32(o.Slots) << 20 }

// at is where the objects of these tests stand: behind three words of others.
const at = 3

// stand is a memory in which an object stands among words of others.
func stand(t *testing.T, o api.Object) *mem.Mem {
	t.Helper()
	m, e := mem.New(at + ring.Size(o) + 2)
	if e != api.OK || m.Fill(0, slices.Repeat([]uint32{77}, m.Len())) != api.OK || m.Fill(at, ring.Lay(o)) != api.OK {
		t.Fatalf("%v cannot stand in a memory", o)
	}
	return m
}

// look is all words of a memory.
func look(m *mem.Mem) []uint32 {
	l, _ := m.Look(api.Region{Len: m.Len()})
	return l
}

// begin is an operation on the object of these tests.
func begin(t *testing.T, o api.Object, op, reader int, rec ...uint32) *ring.Op {
	t.Helper()
	x, e := ring.Begin(o, at, op, reader, rec)
	if e != api.OK || x == nil || x.Over() || x.Steps() != 0 {
		t.Fatalf("Begin of %v, %d, %d, %v: %d", o, op, reader, rec, e)
	}
	return x
}

// do makes all steps of an operation, and tells what it read, how it ended, and how many steps it made.
func do(t *testing.T, o api.Object, m *mem.Mem, op, reader int, rec ...uint32) ([]uint32, int, int) {
	t.Helper()
	x := begin(t, o, op, reader, rec...)
	for x.Step(m) {
	}
	if !x.Over() {
		t.Fatalf("an operation %d of %v does not end", op, o)
	}
	read, code := x.Answer()
	return read, code, x.Steps()
}

// plan is an operation in the chapter's words, made on an object's words; between each two steps it calls then.
type plan func(l []uint32, then func()) ([]uint32, int)

// follow makes an operation beside its plan, and holds both against each other behind each step; ahead of each step others do to the object's words what they will.
func follow(t *testing.T, x *ring.Op, m *mem.Mem, size int, p plan, others func(l []uint32)) {
	t.Helper()
	l, steps, before := look(m), 0, m.Steps()
	object := l[at : at+size]
	step := func(over bool) {
		t.Helper()
		steps++
		if c := x.Clone(); !c.Step(m.Clone()) || c.Over() != over || c.Steps() != steps || x.Steps() != steps-1 {
			t.Fatalf("step %d: a clone does otherwise, or is not apart", steps)
		}
		if !x.Step(m) || x.Over() != over || x.Steps() != steps || m.Steps() != before+steps {
			t.Fatalf("step %d: over is %v, not %v; %d steps, %d of the memory", steps, x.Over(), over, x.Steps(), m.Steps()-before)
		}
		if got := look(m); !slices.Equal(got, l) {
			t.Fatalf("behind step %d: %v, not %v", steps, got, l)
		}
	}
	others(object)
	m.Fill(0, l)
	read, code := p(object, func() {
		t.Helper()
		step(false)
		if got, how := x.Answer(); len(got) != 0 || how != api.Good {
			t.Fatalf("behind step %d an answer: %v, %d", steps, got, how)
		}
		others(object)
		m.Fill(0, l)
	})
	step(true)
	if got, how := x.Answer(); !slices.Equal(got, read) || how != code {
		t.Fatalf("ended with %v, %d, not %v, %d", got, how, read, code)
	}
	if x.Step(m) || x.Steps() != steps || m.Steps() != before+steps {
		t.Fatal("a step behind the last one")
	}
}

// alone is nobody else.
func alone([]uint32) {}

// scribbler changes each of the first words, and of those behind them, once in so many times, to what nobody would write, or to a number below most.
func scribbler(r *rand.Rand, first, once int, most uint32) func(l []uint32) {
	return func(l []uint32) {
		for i := range l {
			switch {
			case r.IntN(once) > 0:
			case i >= first || r.IntN(8) == 0:
				l[i] = r.Uint32()
			default:
				l[i] = r.Uint32N(most)
			}
		}
	}
}

// record is a record of so many words.
func record(r *rand.Rand, width int) []uint32 {
	l := make([]uint32, width)
	for i := range l {
		l[i] = r.Uint32()
	}
	return l
}

// P17.1: a nil operation is none.
func TestNone(t *testing.T) {
	var x *ring.Op
	m, _ := mem.New(40)
	if rec, code := x.Answer(); len(rec) != 0 || code != api.Good {
		t.Error("Answer")
	}
	if x.Step(m) || x.Step(nil) || !x.Over() || x.Steps() != 0 || x.Clone() != nil || m.Steps() != 0 {
		t.Error("a nil operation does something")
	}
}

// P14.2: which objects are right, and that those that are not have nothing.
func TestRight(t *testing.T) {
	for width := -2; width <= api.MaxWidth+2; width++ {
		for slots := -1; slots <= api.MaxSlots+2; slots++ {
			for attempts := -2; attempts <= api.MaxCap+2; attempts++ {
				want := width >= 1 && width <= api.MaxWidth && slots >= 2 && slots <= api.MaxSlots && attempts >= 1 && attempts <= api.MaxCap
				if got := ring.Right(made(width, slots, attempts)); got != want {
					t.Errorf("Width %d, Slots %d, Cap %d: %v", width, slots, attempts, got)
				}
			}
		}
	}
	for readers := range api.MaxReaders + 3 {
		o := made(2, 2, 2)
		o.Readers = make([]int, readers)
		if got := ring.Right(o); got != (readers >= 1 && readers <= api.MaxReaders) {
			t.Errorf("%d readers: %v", readers, got)
		}
	}
	for slots := 2; slots <= api.MaxSlots; slots++ {
		o := made(2, slots, 2)
		for start, want := range map[uint32]bool{0: true, 1: true, modulus(o) - 1: true, modulus(o): false, modulus(o) + 1: false, math.MaxUint32: false} {
			o.Start = start
			if got := ring.Right(o); got != want {
				t.Errorf("Slots %d, Start %d: %v", slots, start, got)
			}
		}
	}
	for name, change := range map[string]func(o *api.Object){
		"kind 0":         func(o *api.Object) { o.Kind = 0 },
		"kind cab":       func(o *api.Object) { o.Kind = api.Cab },
		"huge width":     func(o *api.Object) { o.Width = math.MaxInt },
		"least width":    func(o *api.Object) { o.Width = math.MinInt },
		"one slot":       func(o *api.Object) { o.Slots = 1 },
		"huge slots":     func(o *api.Object) { o.Slots = math.MaxInt },
		"no cap":         func(o *api.Object) { o.Cap = 0 },
		"huge cap":       func(o *api.Object) { o.Cap = math.MaxInt },
		"start":          func(o *api.Object) { o.Start = 4 << 20 },
		"init too short": func(o *api.Object) { o.Init = o.Init[1:] },
		"init too long":  func(o *api.Object) { o.Init = append(o.Init, 1) },
		"no init":        func(o *api.Object) { o.Init = nil },
		"no readers":     func(o *api.Object) { o.Readers = nil },
	} {
		o := made(2, 4, 2)
		change(&o)
		if ring.Right(o) || ring.Size(o) != 0 || len(ring.Lay(o)) != 0 || ring.Bound(o, api.OpRead) != 0 || ring.Bound(o, api.OpWrite) != 0 {
			t.Errorf("%s: right, or with something", name)
		}
		if x, e := ring.Begin(o, 0, api.OpRead, 0, nil); x != nil || e != api.ErrArg {
			t.Errorf("%s: Begin: %d", name, e)
		}
	}
	o := made(2, 2, 2)
	o.Writer, o.Readers = -5, []int{math.MaxInt, -5}
	if !ring.Right(o) {
		t.Error("something is asked of Writer, or of who the readers are")
	}
}

// P14.2, P17.4: Size, Lay and Bound.
func TestSizeLayBound(t *testing.T) {
	for width := 1; width <= api.MaxWidth; width++ {
		for slots := 2; slots <= api.MaxSlots; slots++ {
			o := made(width, slots, 1+slots%api.MaxCap)
			o.Start = modulus(o) - uint32(width)
			l := ring.Lay(o)
			if size := 1 + slots*width; ring.Size(o) != size || len(l) != size || l[0] != o.Start {
				t.Fatalf("Width %d, Slots %d: Size %d, Lay %v", width, slots, ring.Size(o), l)
			}
			from := 1 + int(o.Start%uint32(slots))*width
			for i, w := range l[1:] {
				want := uint32(0)
				if n := i + 1 - from; n >= 0 && n < width {
					want = o.Init[n]
				}
				if w != want {
					t.Errorf("Width %d, Slots %d, word %d: %d", width, slots, i+1, w)
				}
			}
			l[from] = 9
			if o.Init[0] != 101 || ring.Lay(o)[from] != 101 {
				t.Error("Lay shares memory")
			}
			for op := -1; op <= 6; op++ {
				want := map[int]int{api.OpWrite: width + 2, api.OpRead: o.Cap * (width + 2)}[op]
				if got := ring.Bound(o, op); got != want {
					t.Errorf("Bound of %d, Width %d, Cap %d: %d, not %d", op, width, o.Cap, got, want)
				}
			}
		}
	}
}

// writing is P17.2.
func writing(o api.Object, rec []uint32) plan {
	return func(l []uint32, then func()) ([]uint32, int) {
		count := (l[0]%modulus(o) + 1) % modulus(o)
		then()
		for i, w := range rec {
			l[1+int(count%uint32(o.Slots))*o.Width+i] = w
			then()
		}
		l[0] = count
		return nil, api.Good
	}
}

// reading is P17.3.
func reading(o api.Object) plan {
	return func(l []uint32, then func()) ([]uint32, int) {
		for n := range o.Cap {
			if n > 0 {
				then()
			}
			count := l[0] % modulus(o)
			then()
			var rec []uint32
			for i := range o.Width {
				rec = append(rec, l[1+int(count%uint32(o.Slots))*o.Width+i])
				then()
			}
			if gap := (l[0]%modulus(o) + modulus(o) - count) % modulus(o); gap < uint32(o.Slots-1) {
				return rec, api.Good
			}
		}
		return nil, api.Retry
	}
}

// P14.1, P14.4, P17.1 to P17.4: each step, whatever others do in between.
func TestSteps(t *testing.T) {
	r := rand.New(rand.NewPCG(17, 1))
	ends := map[int]int{}
	for range 4000 {
		o := made(1+r.IntN(api.MaxWidth), 2+r.IntN(api.MaxSlots-1), 1+r.IntN(api.MaxCap))
		o.Start = modulus(o) - 1 - r.Uint32N(8)
		m, size := stand(t, o), ring.Size(o)
		others := scribbler(r, 1, 1+r.IntN(20), 20)
		switch r.IntN(4) {
		case 0:
			others = alone
		case 1:
			// Some writes come between each two steps, so that most attempts fail.
			others = func(l []uint32) { l[0] += r.Uint32N(uint32(o.Slots)) }
		}
		for range 4 {
			rec := record(r, o.Width)
			x := begin(t, o, api.OpWrite, 0, rec...)
			follow(t, x, m, size, writing(o, rec), others)
			if x.Steps() != o.Width+2 {
				t.Fatalf("a write of Width %d: %d steps", o.Width, x.Steps())
			}
			x = begin(t, o, api.OpRead, r.IntN(2))
			follow(t, x, m, size, reading(o), others)
			if x.Steps() > o.Cap*(o.Width+2) {
				t.Fatalf("a read of Width %d, Cap %d: %d steps", o.Width, o.Cap, x.Steps())
			}
			_, code := x.Answer()
			ends[code]++
		}
	}
	if len(ends) != 2 || ends[api.Good] < 1000 || ends[api.Retry] < 1000 {
		t.Errorf("the tests see too little: %v", ends)
	}
}

// P17.3: an attempt stands as many writes as there are slots, less two, and not one more, wherever the counter is.
func TestWritesInBetween(t *testing.T) {
	for slots := 2; slots <= api.MaxSlots; slots++ {
		for ahead := range uint32(slots + 2) {
			for writes := range 2*slots + 1 {
				o := made(2, slots, 1)
				o.Start = modulus(o) - 1 - ahead
				m := stand(t, o)
				x := begin(t, o, api.OpRead, 0)
				x.Step(m)
				for n := range writes {
					do(t, o, m, api.OpWrite, 0, uint32(n), uint32(n))
				}
				for x.Step(m) {
				}
				got, code := x.Answer()
				good := writes < slots-1
				if good && (code != api.Good || !slices.Equal(got, o.Init)) || !good && (code != api.Retry || len(got) != 0) {
					t.Fatalf("Slots %d, Start %d, %d writes: %v, %d", slots, o.Start, writes, got, code)
				}
			}
		}
	}
}

// P17.3, P17.4: a read makes just so many steps as its attempts that fail ask for, and ends with Retry when all of them failed.
func TestAttempts(t *testing.T) {
	for width := 1; width <= api.MaxWidth; width++ {
		for attempts := 1; attempts <= api.MaxCap; attempts++ {
			o := made(width, 2, attempts)
			for spoilt := range attempts + 1 {
				m := stand(t, o)
				x := begin(t, o, api.OpRead, 0)
				want, code := o.Init, api.Good
				for n := range spoilt {
					x.Step(m)
					want = slices.Repeat([]uint32{uint32(n)}, width)
					do(t, o, m, api.OpWrite, 0, want...)
					for range width + 1 {
						x.Step(m)
					}
				}
				steps := (spoilt + 1) * (width + 2)
				if spoilt == attempts {
					want, code, steps = nil, api.Retry, attempts*(width+2)
				}
				for x.Step(m) {
				}
				if got, how := x.Answer(); !slices.Equal(got, want) || how != code || x.Steps() != steps {
					t.Fatalf("Width %d, Cap %d, %d spoilt: %v, %d, %d steps", width, attempts, spoilt, got, how, x.Steps())
				}
			}
		}
	}
}

// P17.2 to P17.4: any word of the counter stands for what is left of it; the modulus does not divide 2^32 for 3 slots.
func TestCounterOfAnyWord(t *testing.T) {
	o := made(1, 3, 1)
	for _, c := range []struct{ was, slot, now uint32 }{
		{math.MaxUint32, math.MaxUint32 % 3145728 % 3, math.MaxUint32%3145728 + 1},
		{3145728, 0, 1},
		{2*3145728 - 1, 2, 0},
	} {
		m := stand(t, o)
		m.Fill(at, []uint32{c.was, 50, 51, 52})
		if got, code, _ := do(t, o, m, api.OpRead, 0); !slices.Equal(got, []uint32{50 + c.slot}) || code != api.Good {
			t.Errorf("of %d read %v, %d", c.was, got, code)
		}
		do(t, o, m, api.OpWrite, 0, 9)
		if l := look(m)[at:]; l[0] != c.now || l[1+c.now%3] != 9 {
			t.Errorf("of %d a write led to %v", c.was, l)
		}
	}
}

// P17.4: what is read, when nobody writes, is what was written last, or the first record, in one attempt; wherever the counter starts.
func TestAlone(t *testing.T) {
	r := rand.New(rand.NewPCG(17, 2))
	for width := 1; width <= api.MaxWidth; width++ {
		for slots := 2; slots <= api.MaxSlots; slots++ {
			o := made(width, slots, 1)
			o.Start = modulus(o) - 1 - r.Uint32N(20)
			m, last := stand(t, o), o.Init
			for range 50 {
				if r.IntN(2) == 0 {
					last = record(r, width)
					do(t, o, m, api.OpWrite, 0, last...)
				}
				if got, code, steps := do(t, o, m, api.OpRead, r.IntN(2)); !slices.Equal(got, last) || code != api.Good || steps != width+2 {
					t.Fatalf("read %v, %d, in %d steps, not %v", got, code, steps, last)
				}
			}
		}
	}
}

// The chapter's example: the counter goes round.
func TestExample(t *testing.T) {
	o := made(2, 3, 1)
	o.Start = 3145727
	m := stand(t, o)
	do(t, o, m, api.OpWrite, 0, 7, 8)
	if got := look(m); !slices.Equal(got[at:at+7], []uint32{0, 7, 8, 0, 0, 101, 102}) {
		t.Errorf("behind a write: %v", got)
	}
}
