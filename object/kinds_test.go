package object_test

import (
	"math"
	"math/rand/v2"
	"slices"
	"testing"

	"coxswain/api"
	"coxswain/cab"
	"coxswain/chen"
	"coxswain/fifo"
	"coxswain/four"
	"coxswain/mem"
	"coxswain/object"
	"coxswain/ring"
	"coxswain/seq"
)

// What the chapters 14 to 19 promise of all kinds' operations is tested here, of each kind's package, and of package object.

// operation is what all operations can do.
type operation interface {
	Step(m *mem.Mem) bool
	Over() bool
	Answer() ([]uint32, int)
	Steps() int
}

// face is a package that begins operations.
type face struct {
	name  string
	begin func(o api.Object, at, op, reader int, rec []uint32) (operation, api.Errno)
	clone func(x operation) operation
}

// faceOf is the face of a package with this Begin.
func faceOf[T interface {
	operation
	comparable
	Clone() T
}](name string, begin func(o api.Object, at, op, reader int, rec []uint32) (T, api.Errno)) face {
	return face{
		name: name,
		begin: func(o api.Object, at, op, reader int, rec []uint32) (operation, api.Errno) {
			var none T
			x, e := begin(o, at, op, reader, rec)
			if x == none {
				return nil, e
			}
			return x, e
		},
		clone: func(x operation) operation { return x.(T).Clone() },
	}
}

// faces are those that begin operations on objects of a kind.
func faces(kind int) []face {
	own := []face{
		api.Four: faceOf("four", four.Begin),
		api.Chen: faceOf("chen", chen.Begin),
		api.Seq:  faceOf("seq", seq.Begin),
		api.Ring: faceOf("ring", ring.Begin),
		api.Cab:  faceOf("cab", cab.Begin),
		api.Fifo: faceOf("fifo", fifo.Begin),
	}
	return []face{own[kind], faceOf("object", object.Begin)}
}

// each calls a test with all objects, faces and operations, and a record to begin these with.
func each(t *testing.T, test func(t *testing.T, f face, o api.Object, op int, rec []uint32)) {
	for _, o := range all() {
		writes, reads, _ := object.Ops(o.Kind)
		for _, f := range faces(o.Kind) {
			t.Run(f.name, func(t *testing.T) {
				rec := make([]uint32, o.Width)
				for i := range rec {
					rec[i] = uint32(2000 + i)
				}
				test(t, f, o, writes, rec)
				test(t, f, o, reads, nil)
			})
		}
	}
}

// stand is a memory in which the object stands from a place on; of its words a queue has a record already, so that it can be taken.
func stand(t *testing.T, o api.Object, at int) *mem.Mem {
	t.Helper()
	m, e := mem.New(at + object.Size(o))
	if e != api.OK || m.Fill(0, slices.Repeat([]uint32{77}, m.Len())) != api.OK || m.Fill(at, object.Lay(o)) != api.OK {
		t.Fatalf("%v cannot stand at %d", o, at)
	}
	if o.Kind == api.Fifo {
		x, _ := object.Begin(o, at, api.OpPut, 0, slices.Repeat([]uint32{88}, o.Width))
		for x.Step(m) {
		}
	}
	return m
}

// look is all words of a memory.
func look(m *mem.Mem) []uint32 {
	l, _ := m.Look(api.Region{Len: m.Len()})
	return l
}

// P14.3, P20.4: Begin's errors, the first one first.
func TestBegin(t *testing.T) {
	each(t, func(t *testing.T, f face, o api.Object, op int, rec []uint32) {
		writes, reads, _ := object.Ops(o.Kind)
		wrong := o
		wrong.Width = 0
		for _, at := range []int{math.MinInt, -1, 0, 5, math.MaxInt} {
			for _, asked := range []int{math.MinInt, -1, 0, 1, 2, 3, 4, 5, math.MaxInt} {
				for _, reader := range []int{math.MinInt, -1, 0, 1, 2, 3, 4, math.MaxInt} {
					for length := range o.Width + 2 {
						readers, words := 1, o.Width
						if asked == reads {
							readers, words = len(o.Readers), 0
						}
						want := api.OK
						switch {
						case at < 0:
							want = api.ErrArg
						case asked != writes && asked != reads:
							want = api.ErrCall
						case reader < 0 || reader >= readers:
							want = api.ErrRange
						case length != words:
							want = api.ErrForm
						}
						x, e := f.begin(o, at, asked, reader, make([]uint32, length))
						if e != want || (x != nil) != (e == api.OK) {
							t.Fatalf("%v at %d, %d, reader %d, %d words: %d, not %d", o, at, asked, reader, length, e, want)
						}
						if x, e := f.begin(wrong, at, asked, reader, make([]uint32, length)); x != nil || e != api.ErrArg {
							t.Fatalf("%v, that is not right: %d", wrong, e)
						}
					}
				}
			}
		}
	})
}

// P14.4, P20.4: what is told from the beginning to the end; a step is one of the memory.
func TestFromBeginningToEnd(t *testing.T) {
	each(t, func(t *testing.T, f face, o api.Object, op int, rec []uint32) {
		m := stand(t, o, 2)
		before := m.Steps()
		x, _ := f.begin(o, 2, op, 0, rec)
		for n := range object.Bound(o, op) + 2 {
			got, code := x.Answer()
			if x.Steps() != n || m.Steps() != before+n || x.Over() || len(got) != 0 || code != api.Good {
				t.Fatalf("%v, %d, behind %d steps: %d, %v, %v, %d", o, op, n, x.Steps(), x.Over(), got, code)
			}
			if !x.Step(m) {
				t.Fatalf("%v, %d, no step behind %d", o, op, n)
			}
			if x.Over() {
				break
			}
		}
		steps, words := x.Steps(), look(m)
		if x.Step(m) || x.Steps() != steps || m.Steps() != before+steps || !slices.Equal(look(m), words) {
			t.Errorf("%v, %d: a step behind the last one", o, op)
		}
		want := []uint32{}
		switch op {
		case api.OpRead:
			want = o.Init
		case api.OpTake:
			want = slices.Repeat([]uint32{88}, o.Width)
		}
		got, code := x.Answer()
		if !slices.Equal(got, want) || code != api.Good {
			t.Errorf("%v, %d: %v, %d", o, op, got, code)
		}
		if len(got) > 0 {
			got[0]++
			if again, _ := x.Answer(); !slices.Equal(again, want) {
				t.Errorf("%v, %d: an answer shares memory", o, op)
			}
		}
		if !slices.Equal(words[:2], []uint32{77, 77}) {
			t.Errorf("%v, %d: words of others became %v", o, op, words[:2])
		}
	})
}

// P14.4: no step where not all of the object's words lie Inside, also in the midst of an operation.
func TestNotInside(t *testing.T) {
	each(t, func(t *testing.T, f face, o api.Object, op int, rec []uint32) {
		m := stand(t, o, 2)
		short, _ := mem.New(m.Len() - 1)
		empty, _ := mem.New(0)
		x, _ := f.begin(o, 2, op, 0, rec)
		for n := 0; !x.Over(); n++ {
			for _, other := range []*mem.Mem{short, empty, nil} {
				if x.Step(other) || x.Steps() != n || other.Steps() != 0 {
					t.Fatalf("%v, %d: a step in a memory that is too short", o, op)
				}
			}
			x.Step(m)
		}
		if !slices.Equal(look(short), make([]uint32, short.Len())) {
			t.Errorf("%v, %d: words of a memory that is too short were changed", o, op)
		}
		for _, at := range []int{3, api.MaxWords, math.MaxInt - 1, math.MaxInt} {
			x, e := f.begin(o, at, op, 0, rec)
			if e != api.OK || x.Step(m) || x.Steps() != 0 || x.Over() {
				t.Errorf("%v, %d at %d: a step", o, op, at)
			}
		}
	})
}

// P14.1: just the memory that is handed to Step is worked on.
func TestOtherMemory(t *testing.T) {
	each(t, func(t *testing.T, f face, o api.Object, op int, rec []uint32) {
		a, b := stand(t, o, 0), stand(t, o, 0)
		x, _ := f.begin(o, 0, op, 0, rec)
		x.Step(a)
		was, steps := look(a), a.Steps()
		for x.Step(b) {
		}
		if !x.Over() || !slices.Equal(look(a), was) || a.Steps() != steps {
			t.Errorf("%v, %d: a memory that was not handed in is worked on", o, op)
		}
	})
}

// P14.1: what was handed in is neither changed nor kept.
func TestKeepsNothing(t *testing.T) {
	each(t, func(t *testing.T, f face, o api.Object, op int, rec []uint32) {
		m, alike := stand(t, o, 0), stand(t, o, 0)
		o.Init, o.Readers, rec = slices.Clone(o.Init), slices.Clone(o.Readers), slices.Clone(rec)
		x, _ := f.begin(o, 0, op, 0, rec)
		y, _ := f.begin(o, 0, op, 0, slices.Clone(rec))
		for _, l := range [][]uint32{o.Init, rec} {
			for i := range l {
				l[i] = 9
			}
		}
		for i := range o.Readers {
			o.Readers[i] = 9
		}
		for x.Step(m) && y.Step(alike) {
			if !slices.Equal(look(m), look(alike)) {
				t.Fatalf("%v, %d: what was handed in is kept", o, op)
			}
		}
		if slices.ContainsFunc(rec, func(w uint32) bool { return w != 9 }) {
			t.Errorf("%v, %d: the record became %v", o, op, rec)
		}
	})
}

// P14.4: a clone stands where the operation does, wherever that is, and goes its own way.
func TestClone(t *testing.T) {
	each(t, func(t *testing.T, f face, o api.Object, op int, rec []uint32) {
		r := rand.New(rand.NewPCG(20, 1))
		m := stand(t, o, 0)
		x, _ := f.begin(o, 0, op, 0, rec)
		for {
			// The clone sees another memory than the operation, in which all words are changed.
			y, elsewhere := f.clone(x), m.Clone()
			z, alike := f.clone(x), m.Clone()
			for y.Step(elsewhere) {
				l := look(elsewhere)
				for i := range l {
					l[i] = r.Uint32N(12)
				}
				elsewhere.Fill(0, l)
			}
			if z.Steps() != x.Steps() || z.Over() != x.Over() {
				t.Fatalf("%v, %d, behind %d steps: a clone is not the same", o, op, x.Steps())
			}
			more := x.Step(m)
			if z.Step(alike) != more || z.Steps() != x.Steps() || z.Over() != x.Over() || !slices.Equal(look(m), look(alike)) {
				t.Fatalf("%v, %d, behind %d steps: a clone goes elsewhere", o, op, x.Steps())
			}
			a, how := x.Answer()
			b, too := z.Answer()
			if !slices.Equal(a, b) || how != too {
				t.Fatalf("%v, %d, behind %d steps: %v, %d, a clone %v, %d", o, op, x.Steps(), a, how, b, too)
			}
			if !more {
				return
			}
		}
	})
}

// P20.5: within its Bound an operation ends, whatever others do to the memory, in which nothing but the object's words is changed.
func TestWithinBound(t *testing.T) {
	each(t, func(t *testing.T, f face, o api.Object, op int, rec []uint32) {
		r := rand.New(rand.NewPCG(20, 2))
		most := []uint32{2, 4, 12, math.MaxUint32}
		for n := range 200 {
			m := stand(t, o, 1)
			x, _ := f.begin(o, 1, op, 0, rec)
			for x.Step(m) {
				l := look(m)
				if l[0] != 77 {
					t.Fatalf("%v, %d: a word of others became %d", o, op, l[0])
				}
				for i := range l[1:] {
					if r.IntN(1+n%7) == 0 {
						l[1+i] = r.Uint32N(most[n%len(most)])
					}
				}
				m.Fill(0, l)
			}
			if !x.Over() || x.Steps() < 1 || x.Steps() > object.Bound(o, op) {
				t.Fatalf("%v, %d: %d steps, over is %v; Bound %d", o, op, x.Steps(), x.Over(), object.Bound(o, op))
			}
		}
	})
}
