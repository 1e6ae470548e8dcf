package isa_test

import (
	"bytes"
	"math"
	"slices"
	"testing"

	"coxswain/api"
	"coxswain/isa"
)

type instr = api.Instr

// The greatest, and the least, of what may be.
var (
	nothing  = [2]int{0, 0}
	register = [2]int{0, 7}
	object   = [2]int{0, 7}
	turns    = [2]int{1, 255}
	place    = [2]int{0, 63}
	own      = [2]int{0, 63}
	anyWord  = [2]int{0, math.MaxUint32}
)

// table is the chapter's: the kinds, their words, what A, B, C and N may be, and which registers are used and set.
var table = []struct {
	op         int
	word       string
	a, b, c, n [2]int
	uses, sets string
}{
	{0, "nop", nothing, nothing, nothing, nothing, "", ""},
	{1, "set", register, nothing, nothing, anyWord, "", "A"},
	{2, "move", register, register, nothing, nothing, "B", "A"},
	{3, "add", register, register, register, nothing, "BC", "A"},
	{4, "sub", register, register, register, nothing, "BC", "A"},
	{5, "mul", register, register, register, nothing, "BC", "A"},
	{6, "and", register, register, register, nothing, "BC", "A"},
	{7, "or", register, register, register, nothing, "BC", "A"},
	{8, "xor", register, register, register, nothing, "BC", "A"},
	{9, "less", register, register, register, nothing, "BC", "A"},
	{10, "equal", register, register, register, nothing, "BC", "A"},
	{11, "load", register, register, nothing, anyWord, "B", "A"},
	{12, "store", register, register, nothing, anyWord, "AB", ""},
	{13, "cas", register, register, register, anyWord, "ABC", "A"},
	{14, "jump", nothing, nothing, nothing, place, "", ""},
	{15, "zero", register, nothing, nothing, place, "A", ""},
	{16, "back", nothing, nothing, turns, place, "", ""},
	{17, "read", register, object, nothing, own, "", "A"},
	{18, "write", register, object, nothing, own, "", "A"},
	{19, "put", register, object, nothing, own, "", "A"},
	{20, "take", register, object, nothing, own, "", "A"},
	{21, "done", nothing, nothing, nothing, nothing, "", ""},
}

// tried are the numbers that are tried as A, B and C; triedN those as N.
var (
	tried  = []int{math.MinInt, math.MinInt32, -256, -1, 0, 1, 6, 7, 8, 9, 63, 64, 254, 255, 256, 257, 1 << 32, 1<<32 + 1, math.MaxInt}
	triedN = []uint32{0, 1, 7, 8, 62, 63, 64, 65, 255, 256, 0x01020304, 1 << 31, math.MaxUint32}
)

func within(v int, r [2]int) bool { return v >= r[0] && v <= r[1] }

// each goes through instructions of all kinds, right and wrong ones, and tells which are right.
func each(yield func(instr, bool) bool) {
	for _, k := range table {
		for _, a := range tried {
			for _, b := range tried {
				for _, c := range tried {
					for _, n := range triedN {
						right := within(a, k.a) && within(b, k.b) && within(c, k.c) && within(int(n), k.n)
						if !yield(instr{Op: k.op, A: a, B: b, C: c, N: n}, right) {
							return
						}
					}
				}
			}
		}
	}
}

// set is the registers of an instruction that have these letters, bit by bit.
func set(i instr, letters string) uint64 {
	var s uint64
	for _, l := range letters {
		s |= 1 << map[rune]int{'A': i.A, 'B': i.B, 'C': i.C}[l]
	}
	return s
}

// strange are kinds that are not there.
var strange = []int{math.MinInt, -1, 22, 23, 256, 1 << 32, math.MaxInt}

// P8.2, P8.4: each instruction, right or wrong, of all kinds.
func TestEachInstruction(t *testing.T) {
	for i, right := range each {
		if isa.Right(i) != right {
			t.Fatalf("Right(%v) is not %v", i, right)
		}
		var uses, sets uint64
		var to, obj, op int
		var leads, calls bool
		if right {
			uses, sets = set(i, table[i.Op].uses), set(i, table[i.Op].sets)
			if leads = i.Op >= 14 && i.Op <= 16; leads {
				to = int(i.N)
			}
			if calls = i.Op >= 17 && i.Op <= 20; calls {
				obj, op = i.B, map[int]int{17: api.OpRead, 18: api.OpWrite, 19: api.OpPut, 20: api.OpTake}[i.Op]
			}
		}
		if isa.Uses(i) != uses || isa.Sets(i) != sets {
			t.Fatalf("%v uses %b, sets %b", i, isa.Uses(i), isa.Sets(i))
		}
		if x, ok := isa.Target(i); x != to || ok != leads {
			t.Fatalf("Target(%v): %d, %v", i, x, ok)
		}
		if x, y, ok := isa.Calls(i); x != obj || y != op || ok != calls {
			t.Fatalf("Calls(%v): %d, %d, %v", i, x, y, ok)
		}
	}
}

// P8.2, P8.4: of kinds that are not there.
func TestStrangeKinds(t *testing.T) {
	for _, op := range strange {
		i := instr{Op: op}
		to, leads := isa.Target(i)
		obj, what, calls := isa.Calls(i)
		if isa.Right(i) || isa.Word(op) != "" || isa.Uses(i) != 0 || isa.Sets(i) != 0 || to != 0 || leads || obj != 0 || what != 0 || calls {
			t.Errorf("kind %d", op)
		}
		if b, ok := isa.Encode([]instr{{}, i}); len(b) != 0 || ok {
			t.Errorf("Encode of kind %d: %v", op, b)
		}
	}
}

// P8.2: words and kinds.
func TestWords(t *testing.T) {
	for _, k := range table {
		if isa.Word(k.op) != k.word {
			t.Errorf("Word(%d): %s", k.op, isa.Word(k.op))
		}
		if op, ok := isa.Kind(k.word); op != k.op || !ok {
			t.Errorf("Kind(%s): %d, %v", k.word, op, ok)
		}
	}
	for _, s := range []string{"", " ", "no", "nopp", "Nop", "NOP", " nop", "nop ", "nop\n", "\x00", "halt", "adds", "ad", "done done"} {
		if op, ok := isa.Kind(s); op != 0 || ok {
			t.Errorf("Kind(%q): %d, %v", s, op, ok)
		}
	}
}

// P8.3: bytes, written out.
func TestBytes(t *testing.T) {
	for _, c := range []struct {
		i instr
		b []byte
	}{
		{instr{Op: api.Add, A: 1, B: 2, C: 3}, []byte{3, 1, 2, 3, 0, 0, 0, 0}},
		{instr{}, []byte{0, 0, 0, 0, 0, 0, 0, 0}},
		{instr{Op: api.Cas, A: 7, B: 6, C: 5, N: 0x04030201}, []byte{13, 7, 6, 5, 1, 2, 3, 4}},
		{instr{Op: api.Set, A: 2, N: math.MaxUint32}, []byte{1, 2, 0, 0, 255, 255, 255, 255}},
		{instr{Op: api.Back, C: 255, N: 63}, []byte{16, 0, 0, 255, 63, 0, 0, 0}},
		{instr{Op: api.Done}, []byte{21, 0, 0, 0, 0, 0, 0, 0}},
	} {
		if b, ok := isa.Encode([]instr{c.i}); !ok || !bytes.Equal(b, c.b) {
			t.Errorf("Encode(%v): %v, %v", c.i, b, ok)
		}
		if p, at, e := isa.Decode(c.b); e != api.OK || at != 0 || !slices.Equal(p, []instr{c.i}) {
			t.Errorf("Decode(%v): %v, %d, %d", c.b, p, at, e)
		}
	}
}

// P8.3, P8.5: each right instruction comes back, and no wrong one is encoded.
func TestThereAndBack(t *testing.T) {
	var all []instr
	for i, right := range each {
		b, ok := isa.Encode([]instr{i})
		if ok != right || right && len(b) != 8 || !right && len(b) != 0 {
			t.Fatalf("Encode(%v): %v, %v", i, b, ok)
		}
		if !right {
			continue
		}
		all = append(all, i)
		p, at, e := isa.Decode(b)
		if e != api.OK || at != 0 || len(p) != 1 || p[0] != i {
			t.Fatalf("Decode(%v): %v, %d, %d", b, p, at, e)
		}
	}
	was := slices.Clone(all)
	b, ok := isa.Encode(all)
	p, at, e := isa.Decode(b)
	if !ok || len(b) != 8*len(all) || e != api.OK || at != 0 || !slices.Equal(p, was) || !slices.Equal(all, was) {
		t.Error("many at once")
	}
	if b, ok := isa.Encode(append(all, instr{Op: api.Jump, N: 64})); ok || len(b) != 0 {
		t.Error("a wrong one behind many")
	}
}

// P8.3, P8.5: bytes are instructions' only if these are encoded so: all that have one byte otherwise.
func TestEachByte(t *testing.T) {
	for _, k := range table {
		first := []byte{byte(k.op), byte(k.a[0]), byte(k.b[0]), byte(k.c[0]), byte(k.n[0]), 0, 0, 0}
		for at := range first {
			for v := range 256 {
				b := slices.Clone(first)
				b[at] = byte(v)
				p, place, e := isa.Decode(b)
				if e == api.OK {
					again, ok := isa.Encode(p)
					if len(p) != 1 || !ok || !bytes.Equal(again, b) {
						t.Fatalf("%v: %v, %v", b, p, again)
					}
				} else if e != api.ErrForm || place != 0 || len(p) != 0 {
					t.Fatalf("%v: %v, %d, %d", b, p, place, e)
				}
				n := int(b[4]) | int(b[5])<<8 | int(b[6])<<16 | int(b[7])<<24
				right := int(b[0]) < len(table)
				if right {
					is := table[b[0]]
					right = within(int(b[1]), is.a) && within(int(b[2]), is.b) && within(int(b[3]), is.c) && within(n, is.n)
				}
				if right != (e == api.OK) {
					t.Fatalf("%v: %d", b, e)
				}
			}
		}
	}
}

// P8.3: where bytes are wrong: the first place, also if some are left over.
func TestDecodeErrors(t *testing.T) {
	nop, bad := make([]byte, 8), []byte{22, 0, 0, 0, 0, 0, 0, 0}
	join := func(l ...[]byte) []byte { return slices.Concat(l...) }
	for _, c := range []struct {
		b  []byte
		n  int
		at int
		e  api.Errno
	}{
		{nil, 0, 0, api.OK},
		{[]byte{}, 0, 0, api.OK},
		{nop, 1, 0, api.OK},
		{join(nop, nop), 2, 0, api.OK},
		{nop[:1], 0, 0, api.ErrEnd},
		{nop[:7], 0, 0, api.ErrEnd},
		{bad[:7], 0, 0, api.ErrEnd},
		{join(nop, nop[:1]), 0, 1, api.ErrEnd},
		{join(nop, nop, bad[:7]), 0, 2, api.ErrEnd},
		{bad, 0, 0, api.ErrForm},
		{join(nop, bad), 0, 1, api.ErrForm},
		{join(nop, bad, bad), 0, 1, api.ErrForm},
		{join(nop, bad, nop[:3]), 0, 1, api.ErrForm},
		{join(nop, nop, nop, bad, nop), 0, 3, api.ErrForm},
		{bytes.Repeat(nop, 9000), 9000, 0, api.OK},
	} {
		was := slices.Clone(c.b)
		p, at, e := isa.Decode(c.b)
		if len(p) != c.n || at != c.at || e != c.e || !bytes.Equal(c.b, was) {
			t.Errorf("%d bytes: %d instructions, %d, %d, not %d, %d, %d", len(c.b), len(p), at, e, c.n, c.at, c.e)
		}
	}
	for _, p := range [][]instr{nil, {}} {
		if b, ok := isa.Encode(p); len(b) != 0 || !ok {
			t.Errorf("Encode of none: %v, %v", b, ok)
		}
	}
}

// P8.4: some sets, written out.
func TestSets(t *testing.T) {
	for _, c := range []struct {
		i          instr
		uses, sets uint64
	}{
		{instr{Op: api.Store, A: 1, B: 4}, 1<<1 | 1<<4, 0},
		{instr{Op: api.Store, A: 4, B: 4}, 1 << 4, 0},
		{instr{Op: api.Add, A: 1, B: 2, C: 3}, 1<<2 | 1<<3, 1 << 1},
		{instr{Op: api.Cas, A: 7, B: 0, C: 3}, 1<<7 | 1<<0 | 1<<3, 1 << 7},
		{instr{Op: api.Zero, A: 5}, 1 << 5, 0},
		{instr{Op: api.Take, A: 6, B: 2}, 0, 1 << 6},
		{instr{Op: api.Take, A: 8, B: 2}, 0, 0},
		{instr{Op: api.Done, A: 1}, 0, 0},
	} {
		if isa.Uses(c.i) != c.uses || isa.Sets(c.i) != c.sets {
			t.Errorf("%v: uses %b, sets %b", c.i, isa.Uses(c.i), isa.Sets(c.i))
		}
	}
}
