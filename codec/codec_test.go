package codec_test

import (
	"bytes"
	"math"
	"slices"
	"testing"

	"coxswain/api"
	"coxswain/codec"
)

// isBad tells whether a reader is bad, and tells 0, or none, whatever is asked.
func isBad(r *codec.In) bool {
	return r.Err() == api.ErrEnd && r.Done() == api.ErrEnd && r.Left() == 0 &&
		r.U8() == 0 && r.U16() == 0 && r.U32() == 0 &&
		len(r.Bytes(0)) == 0 && len(r.Bytes(1)) == 0 && len(r.Bytes(-1)) == 0 &&
		r.Err() == api.ErrEnd && r.Done() == api.ErrEnd && r.Left() == 0
}

// P2.1: a reader has its bytes in memory of its own, and so has whoever was told some of them.
func TestReaderKeepsItsOwnBytes(t *testing.T) {
	b := []byte{1, 2, 3, 4}
	r := codec.New(b)
	b[0], b[1] = 9, 9
	told := r.Bytes(2)
	if !bytes.Equal(told, []byte{1, 2}) {
		t.Errorf("told %v", told)
	}
	_ = append(told, 77, 78)
	if got := r.Bytes(2); !bytes.Equal(got, []byte{3, 4}) {
		t.Errorf("told %v", got)
	}
	if !bytes.Equal(b, []byte{9, 9, 3, 4}) {
		t.Errorf("handed in, and now %v", b)
	}
}

// P2.1: a nil reader is one that is bad; two readers know nothing of one another.
func TestNilReader(t *testing.T) {
	if !isBad(nil) {
		t.Error("a nil reader is not bad")
	}
	b := []byte{1, 2}
	x, y := codec.New(b), codec.New(b)
	x.U32()
	if !isBad(x) || y.U16() != 0x201 || y.Done() != api.OK {
		t.Error("two readers of the same bytes")
	}
}

// P2.2: numbers, whose lowest byte comes first, and what is left.
func TestReading(t *testing.T) {
	r := codec.New([]byte{1, 2, 3, 4, 5, 6, 255, 8, 9, 255, 255, 255, 255, 255, 255, 255})
	if n := r.U8(); n != 1 || r.Left() != 15 {
		t.Errorf("U8: %d, left %d", n, r.Left())
	}
	if n := r.U16(); n != 0x302 || r.Left() != 13 {
		t.Errorf("U16: %d, left %d", n, r.Left())
	}
	if n := r.U32(); n != 0xff060504 || r.Left() != 9 {
		t.Errorf("U32: %d, left %d", n, r.Left())
	}
	if l := r.Bytes(2); !bytes.Equal(l, []byte{8, 9}) || r.Left() != 7 {
		t.Errorf("Bytes: %v, left %d", l, r.Left())
	}
	if l := r.Bytes(0); len(l) != 0 || r.Left() != 7 || r.Err() != api.OK {
		t.Errorf("Bytes of 0: %v, left %d", l, r.Left())
	}
	if r.U8() != 255 || r.U16() != 65535 || r.U32() != math.MaxUint32 || r.Err() != api.OK || r.Done() != api.OK {
		t.Error("the greatest numbers")
	}
}

// P2.2: with fewer bytes than asked for, or less than none asked for, the reader is bad from then on.
func TestTooFewBytes(t *testing.T) {
	asks := map[string]struct {
		need int
		ask  func(*codec.In) int
	}{
		"U8":               {1, func(r *codec.In) int { return r.U8() }},
		"U16":              {2, func(r *codec.In) int { return r.U16() }},
		"U32":              {4, func(r *codec.In) int { return int(r.U32()) }},
		"Bytes of 3":       {3, func(r *codec.In) int { return len(r.Bytes(3)) }},
		"Bytes of -1":      {math.MaxInt, func(r *codec.In) int { return len(r.Bytes(-1)) }},
		"Bytes of MinInt":  {math.MaxInt, func(r *codec.In) int { return len(r.Bytes(math.MinInt)) }},
		"Bytes of MaxInt":  {math.MaxInt, func(r *codec.In) int { return len(r.Bytes(math.MaxInt)) }},
		"Bytes of 2^62 -1": {math.MaxInt, func(r *codec.In) int { return len(r.Bytes(1<<62 - 1)) }},
	}
	for name, a := range asks {
		for n := range 6 {
			for read := range n + 1 {
				r := codec.New(bytes.Repeat([]byte{7}, n))
				r.Bytes(read)
				left := n - read
				got := a.ask(r)
				if left < a.need {
					if got != 0 || !isBad(r) {
						t.Errorf("%s of %d: %d, and not bad", name, left, got)
					}
				} else if got == 0 || r.Err() != api.OK || r.Left() != left-a.need {
					t.Errorf("%s of %d: %d, left %d", name, left, got, r.Left())
				}
			}
		}
	}
}

// P2.3: Err and Done of all three states.
func TestErrAndDone(t *testing.T) {
	r := codec.New([]byte{1, 2})
	if r.Err() != api.OK || r.Done() != api.ErrMore {
		t.Error("bytes are left")
	}
	r.U16()
	if r.Err() != api.OK || r.Done() != api.OK {
		t.Error("all was read")
	}
	r.U8()
	if r.Err() != api.ErrEnd || r.Done() != api.ErrEnd {
		t.Error("too few")
	}
	bad := codec.New([]byte{1, 2})
	bad.U32()
	if bad.Err() != api.ErrEnd || bad.Done() != api.ErrEnd {
		t.Error("bad, though bytes were not read")
	}
	if e := codec.New(nil); e.Err() != api.OK || e.Done() != api.OK || e.Left() != 0 {
		t.Error("no bytes")
	}
}

// P2.4: the lowest bytes, the lowest one first, also of numbers below 0 and of greater ones.
func TestLaying(t *testing.T) {
	head := []byte{9, 8}
	for n, low := range map[int][2]byte{0: {0, 0}, 1: {1, 0}, 255: {255, 0}, 256: {0, 1}, 258: {2, 1}, 65535: {255, 255}, 65536: {0, 0}, 65537 + 512: {1, 2}, -1: {255, 255}, -2: {254, 255}, -256: {0, 255}, math.MinInt: {0, 0}, math.MaxInt: {255, 255}} {
		if got := codec.Put8(head, n); !bytes.Equal(got, []byte{9, 8, low[0]}) {
			t.Errorf("Put8 of %d: %v", n, got)
		}
		if got := codec.Put16(head, n); !bytes.Equal(got, []byte{9, 8, low[0], low[1]}) {
			t.Errorf("Put16 of %d: %v", n, got)
		}
	}
	if got := codec.Put32(head, 0x80030201); !bytes.Equal(got, []byte{9, 8, 1, 2, 3, 128}) {
		t.Errorf("Put32: %v", got)
	}
	if got := codec.Put16(nil, 258); !bytes.Equal(got, []byte{2, 1}) {
		t.Errorf("Put16 of 258: %v", got)
	}
}

// P2.1, P2.4: what is laid is new memory, even if there is room behind what was handed in.
func TestLayingIsNewMemory(t *testing.T) {
	room := []byte{1, 2, 3, 4, 5, 6, 7, 8}
	for _, lay := range []func([]byte) []byte{
		func(b []byte) []byte { return codec.Put8(b, 99) },
		func(b []byte) []byte { return codec.Put16(b, 9999) },
		func(b []byte) []byte { return codec.Put32(b, 99999999) },
	} {
		x := lay(room[:2])
		x[0] = 55
		_ = append(x, 56)
		if !slices.Equal(room, []byte{1, 2, 3, 4, 5, 6, 7, 8}) {
			t.Fatalf("what was handed in is now %v", room)
		}
		y := lay(x[:2])
		if &y[0] == &x[0] {
			t.Error("two answers share memory")
		}
	}
}

// P2.5: what was laid is read, and what is behind it stays.
func TestLaidIsRead(t *testing.T) {
	for _, n := range []int{0, 1, 2, 127, 128, 255, 256, 257, 32768, 65535} {
		for _, w := range []uint32{0, 1, 255, 256, 65536, 1 << 24, 1 << 31, math.MaxUint32} {
			b := codec.Put8(codec.Put32(codec.Put16(codec.Put8(nil, n%256), n), w), 42)
			r := codec.New(b)
			if r.U8() != n%256 || r.U16() != n || r.U32() != w || r.Left() != 1 || r.U8() != 42 || r.Done() != api.OK {
				t.Errorf("laid %d and %d", n, w)
			}
		}
	}
}
