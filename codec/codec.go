// Package codec is layer 2: see ../../shared/doc/02-codec.md.
package codec

import (
	"slices"

	"coxswain/api"
)

// In reads bytes; bad: there were too few.
type In struct {
	kept
	bad bool
}

// kept is a reader's own bytes, and how many of them were read.
type kept struct {
	bytes []byte
	read  int
}

// left is how many bytes were not read yet.
func (k *kept) left() int { return len(k.bytes) - k.read }

// New is a reader of bytes.
func New(b []byte) *In {
	own := make([]byte, len(b))
	copy(own, b)
	return &In{kept: kept{bytes: own}}
}

// U8 is the next byte.
func (r *In) U8() int { return int(number(r.next(1))) }

// U16 is the next two bytes.
func (r *In) U16() int { return int(number(r.next(2))) }

// U32 is the next four bytes.
func (r *In) U32() uint32 { return number(r.next(4)) }

// Bytes is the next n bytes.
func (r *In) Bytes(n int) []byte { return slices.Clone(r.next(n)) }

// next is the reader's own next n bytes, none of a bad one: whoever hands them out clones them.
func (r *In) next(n int) []byte {
	if r.Err() != api.OK {
		return nil
	}
	if n < 0 || n > r.left() {
		r.bad = true
		return nil
	}
	from := r.read
	r.read += n
	return r.bytes[from:r.read]
}

// number is the number of up to four bytes, the lowest one first.
func number(b []byte) uint32 {
	var w uint32
	for i, x := range b {
		w |= uint32(x) << (8 * i)
	}
	return w
}

// Left is how many bytes are left.
func (r *In) Left() int {
	if r.Err() != api.OK {
		return 0
	}
	return r.left()
}

// Err is what is wrong so far.
func (r *In) Err() api.Errno {
	if r == nil || r.bad {
		return api.ErrEnd
	}
	return api.OK
}

// Done is what is wrong, if that was all.
func (r *In) Done() api.Errno {
	if e := r.Err(); e != api.OK {
		return e
	}
	if r.left() > 0 {
		return api.ErrMore
	}
	return api.OK
}

// Put8 lays a byte.
func Put8(b []byte, n int) []byte { return lay(b, uint32(n), 1) }

// Put16 lays two bytes.
func Put16(b []byte, n int) []byte { return lay(b, uint32(n), 2) }

// Put32 lays four bytes.
func Put32(b []byte, w uint32) []byte { return lay(b, w, 4) }

// lay is b, and behind it the count lowest bytes of w. It is new memory: the room behind b's end may be somebody else's.
func lay(b []byte, w uint32, count int) []byte {
	out := make([]byte, len(b), len(b)+count)
	copy(out, b)
	for i := range count {
		out = append(out, byte(w>>(8*i)))
	}
	return out
}
