package object_test

import (
	"math"
	"slices"
	"testing"

	"coxswain/api"
	"coxswain/cab"
	"coxswain/chen"
	"coxswain/fifo"
	"coxswain/four"
	"coxswain/mem"
	"coxswain/object"
	"coxswain/ring"
	"coxswain/seq"
)

// words are the words of all kinds, by their numbers.
var words = []string{api.Four: "four", api.Chen: "chen", api.Seq: "seq", api.Ring: "ring", api.Cab: "cab", api.Fifo: "fifo"}

// none are numbers of no kind.
var none = []int{math.MinInt, -1, 0, 7, 8, 255, math.MaxInt}

// made is a right object of a kind: records of so many words, as many readers as may be (of four and fifo one), three slots more, and so many attempts.
func made(kind, width, readers, attempts int) api.Object {
	o := api.Object{Kind: kind, Width: width, Init: make([]uint32, width), Writer: 0}
	for i := range o.Init {
		o.Init[i] = uint32(1000 + i)
	}
	if kind == api.Four || kind == api.Fifo {
		readers = 1
	}
	for i := range readers {
		o.Readers = append(o.Readers, 1+i)
	}
	switch kind {
	case api.Seq:
		o.Cap, o.Start = attempts, math.MaxUint32-1
	case api.Ring:
		o.Cap, o.Slots, o.Start = attempts, 3, 3<<20-1
	case api.Cab:
		o.Cap, o.Slots = attempts, readers+2
	case api.Fifo:
		o.Init, o.Slots, o.Start = nil, 2, 3
	}
	return o
}

// all are right objects of all kinds.
func all() []api.Object {
	var l []api.Object
	for kind := api.Four; kind <= api.Fifo; kind++ {
		for _, width := range []int{1, 3, api.MaxWidth} {
			for _, readers := range []int{1, 2, api.MaxReaders} {
				l = append(l, made(kind, width, readers, 2))
			}
		}
	}
	return l
}

// P20.2: Ops, Word and Kind.
func TestKinds(t *testing.T) {
	for kind := api.Four; kind <= api.Fifo; kind++ {
		writes, reads := api.OpWrite, api.OpRead
		if kind == api.Fifo {
			writes, reads = api.OpPut, api.OpTake
		}
		if w, r, ok := object.Ops(kind); w != writes || r != reads || !ok {
			t.Errorf("Ops of %d: %d, %d, %v", kind, w, r, ok)
		}
		if got := object.Word(kind); got != words[kind] {
			t.Errorf("Word of %d: %q", kind, got)
		}
		if got, ok := object.Kind(words[kind]); got != kind || !ok {
			t.Errorf("Kind of %q: %d, %v", words[kind], got, ok)
		}
	}
	for _, kind := range none {
		if w, r, ok := object.Ops(kind); w != 0 || r != 0 || ok {
			t.Errorf("Ops of %d: %d, %d, %v", kind, w, r, ok)
		}
		if got := object.Word(kind); got != "" {
			t.Errorf("Word of %d: %q", kind, got)
		}
	}
	for _, s := range []string{"", " ", "Four", "fou", "fourr", "four ", " seq", "seqring", "1", "\xff", "FIFO"} {
		if got, ok := object.Kind(s); got != 0 || ok {
			t.Errorf("Kind of %q: %d, %v", s, got, ok)
		}
	}
}

// P20.3: Shaped, Size, Lay and Bound are those of the object's kind.
func TestOfTheKind(t *testing.T) {
	for _, o := range all() {
		for _, kind := range slices.Concat(none, []int{1, 2, 3, 4, 5, 6}) {
			o.Kind = kind
			var right bool
			var size int
			var lay []uint32
			bound := func(o api.Object, op int) int { return 0 }
			switch kind {
			case api.Four:
				right, size, lay, bound = four.Right(o), four.Size(o), four.Lay(o), four.Bound
			case api.Chen:
				right, size, lay, bound = chen.Right(o), chen.Size(o), chen.Lay(o), chen.Bound
			case api.Seq:
				right, size, lay, bound = seq.Right(o), seq.Size(o), seq.Lay(o), seq.Bound
			case api.Ring:
				right, size, lay, bound = ring.Right(o), ring.Size(o), ring.Lay(o), ring.Bound
			case api.Cab:
				right, size, lay, bound = cab.Right(o), cab.Size(o), cab.Lay(o), cab.Bound
			case api.Fifo:
				right, size, lay, bound = fifo.Right(o), fifo.Size(o), fifo.Lay(o), fifo.Bound
			}
			if object.Shaped(o) != right || object.Right(o) != right || object.Size(o) != size || !slices.Equal(object.Lay(o), lay) {
				t.Errorf("%v: %v, %v, %d, %v", o, object.Shaped(o), object.Right(o), object.Size(o), object.Lay(o))
			}
			for op := -1; op < 7; op++ {
				if got := object.Bound(o, op); got != bound(o, op) {
					t.Errorf("%v: Bound of %d: %d", o, op, got)
				}
			}
			if !slices.Contains([]int{1, 2, 3, 4, 5, 6}, kind) && (right || size != 0 || lay != nil) {
				t.Errorf("%v has something", o)
			}
		}
	}
}

// P20.3: Right looks at who writes, and who reads.
func TestRight(t *testing.T) {
	for _, c := range []struct {
		writer  int
		readers []int
		want    bool
	}{
		{0, []int{1, 2}, true},
		{7, []int{0, 6}, true},
		{3, []int{7, 5, 0, 1}, true},
		{-1, []int{1, 2}, false},
		{8, []int{1, 2}, false},
		{0, []int{-1, 2}, false},
		{0, []int{1, 8}, false},
		{math.MinInt, []int{1}, false},
		{0, []int{math.MaxInt}, false},
		{1, []int{1, 2}, false},
		{2, []int{1, 2}, false},
		{0, []int{2, 2}, false},
		{0, []int{1, 2, 3, 1}, false},
		{0, []int{1, 2, 3, 3}, false},
		{-1, []int{-1}, false},
		{0, nil, false},
		{0, []int{1, 2, 3, 4, 5}, false},
	} {
		for _, kind := range []int{api.Chen, api.Seq, api.Ring} {
			o := made(kind, 2, 1, 1)
			o.Writer, o.Readers = c.writer, c.readers
			was := slices.Clone(c.readers)
			if got := object.Right(o); got != c.want {
				t.Errorf("kind %d, %d, %v: %v", kind, c.writer, c.readers, got)
			}
			if !slices.Equal(c.readers, was) {
				t.Errorf("%v became %v", was, c.readers)
			}
			if shaped := len(c.readers) >= 1 && len(c.readers) <= api.MaxReaders; object.Shaped(o) != shaped {
				t.Errorf("kind %d, %v: Shaped is not %v", kind, c.readers, shaped)
			}
		}
	}
	// What stands behind the end of the list of readers is nobody's.
	behind := []int{1, 2, 3}
	o := made(api.Seq, 1, 1, 1)
	o.Writer, o.Readers = 4, behind[:1]
	if !object.Right(o) || !slices.Equal(behind, []int{1, 2, 3}) {
		t.Errorf("the list of readers became %v", behind)
	}
}

// P20.3: Reader is a place among Readers, whatever the object is.
func TestReader(t *testing.T) {
	for _, kind := range []int{api.Seq, 0, -7} {
		o := api.Object{Kind: kind, Writer: 5, Readers: []int{3, 0, -2, 3, 9}}
		for task, place := range map[int]int{3: 0, 0: 1, -2: 2, 9: 4} {
			if got, ok := object.Reader(o, task); got != place || !ok {
				t.Errorf("Reader of %d: %d, %v", task, got, ok)
			}
		}
		for _, task := range []int{5, 1, -1, math.MinInt, math.MaxInt} {
			if got, ok := object.Reader(o, task); got != 0 || ok {
				t.Errorf("Reader of %d: %d, %v", task, got, ok)
			}
		}
	}
	if got, ok := object.Reader(api.Object{}, 0); got != 0 || ok {
		t.Errorf("a reader of none: %d, %v", got, ok)
	}
}

// P20.4: Begin of no kind.
func TestBeginOfNoKind(t *testing.T) {
	for _, kind := range none {
		o := made(api.Seq, 1, 1, 1)
		o.Kind = kind
		if x, e := object.Begin(o, 0, api.OpRead, 0, nil); x != nil || e != api.ErrArg {
			t.Errorf("kind %d: %d", kind, e)
		}
	}
}

// P20.1: a nil operation is none.
func TestNone(t *testing.T) {
	var x *object.Op
	m, _ := mem.New(9)
	if rec, code := x.Answer(); len(rec) != 0 || code != api.Good {
		t.Error("Answer")
	}
	if x.Step(m) || x.Step(nil) || !x.Over() || x.Steps() != 0 || x.Clone() != nil || m.Steps() != 0 {
		t.Error("a nil operation does something")
	}
}

// The chapter's example.
func TestExample(t *testing.T) {
	if w, r, ok := object.Ops(api.Fifo); w != 3 || r != 4 || !ok {
		t.Errorf("Ops of Fifo: %d, %d, %v", w, r, ok)
	}
}
