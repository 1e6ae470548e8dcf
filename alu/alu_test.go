package alu_test

import (
	"math"
	"math/big"
	"testing"

	"coxswain/alu"
	"coxswain/api"
)

const top = math.MaxUint32

// words are the words of which all pairs are tried.
var words = []uint32{0, 1, 2, 3, 5, 7, 255, 256, 65535, 65536, 1<<31 - 1, 1 << 31, 1<<31 + 1, 0xaaaaaaaa, 0x55555555, top - 1, top}

// strange are kinds that are none of two words, up to the ends of int.
var strange = []int{math.MinInt, math.MinInt32, -1, api.Nop, api.Set, api.Move, api.Load, api.Store, api.Cas, api.Jump, api.Zero, api.Back, api.Read, api.Write, api.Put, api.Take, api.Done, 22, 256, 259, 1 << 32, 1<<32 + api.Add, math.MaxInt}

// kinds are those of two words, with what they make, by numbers that do not go round.
var kinds = map[int]func(b, c *big.Int) *big.Int{
	api.Add: func(b, c *big.Int) *big.Int { return new(big.Int).Add(b, c) },
	api.Sub: func(b, c *big.Int) *big.Int { return new(big.Int).Sub(b, c) },
	api.Mul: func(b, c *big.Int) *big.Int { return new(big.Int).Mul(b, c) },
	api.And: func(b, c *big.Int) *big.Int { return new(big.Int).And(b, c) },
	api.Or:  func(b, c *big.Int) *big.Int { return new(big.Int).Or(b, c) },
	api.Xor: func(b, c *big.Int) *big.Int { return new(big.Int).Xor(b, c) },
	api.Less: func(b, c *big.Int) *big.Int {
		if b.Cmp(c) < 0 {
			return big.NewInt(1)
		}
		return big.NewInt(0)
	},
	api.Equal: func(b, c *big.Int) *big.Int {
		if b.Cmp(c) == 0 {
			return big.NewInt(1)
		}
		return big.NewInt(0)
	},
}

// P7.2: what Do makes of all pairs, modulo 2^32.
func TestDo(t *testing.T) {
	mod := new(big.Int).Lsh(big.NewInt(1), 32)
	for op, make := range kinds {
		if !alu.Is(op) {
			t.Errorf("Is(%d)", op)
		}
		for _, b := range words {
			for _, c := range words {
				want := make(big.NewInt(int64(b)), big.NewInt(int64(c)))
				want.Mod(want, mod)
				if w, ok := alu.Do(op, b, c); !ok || uint64(w) != want.Uint64() {
					t.Errorf("Do(%d, %d, %d): %d, %v, not %v", op, b, c, w, ok, want)
				}
			}
		}
	}
}

// P7.2: some answers, written out.
func TestDoOf(t *testing.T) {
	for _, c := range []struct {
		op   int
		b, c uint32
		want uint32
	}{
		{api.Add, 2, 5, 7},
		{api.Add, top, 1, 0},
		{api.Add, top, top, top - 1},
		{api.Sub, 5, 2, 3},
		{api.Sub, 2, 5, 1<<32 - 3},
		{api.Sub, 0, 1, top},
		{api.Mul, 6, 7, 42},
		{api.Mul, 1 << 16, 1 << 16, 0},
		{api.Mul, top, top, 1},
		{api.And, 12, 10, 8},
		{api.Or, 12, 10, 14},
		{api.Xor, 12, 10, 6},
		{api.Less, 2, 5, 1},
		{api.Less, 5, 2, 0},
		{api.Less, 5, 5, 0},
		{api.Less, 1, top, 1}, // words have no sign
		{api.Less, top, 1, 0},
		{api.Equal, 5, 5, 1},
		{api.Equal, 5, 2, 0},
		{api.Equal, top, top, 1},
	} {
		if w, ok := alu.Do(c.op, c.b, c.c); !ok || w != c.want {
			t.Errorf("Do(%d, %d, %d): %d, %v, not %d", c.op, c.b, c.c, w, ok, c.want)
		}
	}
}

// P7.2, P7.3: of all other kinds nothing is told.
func TestStrangeKinds(t *testing.T) {
	for _, op := range strange {
		if alu.Is(op) || alu.Swaps(op) {
			t.Errorf("Is, or Swaps, of %d", op)
		}
		if w, ok := alu.Do(op, 3, 4); w != 0 || ok {
			t.Errorf("Do(%d): %d, %v", op, w, ok)
		}
		if w, ok := alu.Rest(op); w != 0 || ok {
			t.Errorf("Rest(%d): %d, %v", op, w, ok)
		}
	}
}

// P7.3: Swaps, held against all pairs.
func TestSwaps(t *testing.T) {
	for op := range kinds {
		same := true
		for _, b := range words {
			for _, c := range words {
				x, _ := alu.Do(op, b, c)
				y, _ := alu.Do(op, c, b)
				same = same && x == y
			}
		}
		if alu.Swaps(op) != same {
			t.Errorf("Swaps(%d) is not %v", op, same)
		}
	}
	if alu.Swaps(api.Sub) || alu.Swaps(api.Less) || !alu.Swaps(api.Equal) {
		t.Error("Swaps")
	}
}

// P7.3: Rest changes nothing; where there is none, each word changes some other one.
func TestRest(t *testing.T) {
	want := map[int]uint32{api.Add: 0, api.Sub: 0, api.Mul: 1, api.And: top, api.Or: 0, api.Xor: 0}
	for op := range kinds {
		rest, ok := alu.Rest(op)
		w, is := want[op]
		if ok != is || rest != w {
			t.Errorf("Rest(%d): %d, %v", op, rest, ok)
		}
		for _, c := range words {
			idle := true
			for _, b := range words {
				x, _ := alu.Do(op, b, c)
				idle = idle && x == b
			}
			if idle != (ok && c == rest) {
				t.Errorf("%d of kind %d: %v", c, op, idle)
			}
		}
	}
}
