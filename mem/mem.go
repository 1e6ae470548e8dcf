// Package mem is layer 6: see ../../shared/doc/06-mem.md.
package mem

import (
	"slices"

	"coxswain/api"
)

// Mem is words, and how many steps were made.
type Mem struct {
	words []uint32
	steps int
}

// New is a memory of noughts.
func New(size int) (*Mem, api.Errno) {
	if size < 0 || size > api.MaxWords {
		return nil, api.ErrArg
	}
	return &Mem{words: make([]uint32, size)}, api.OK
}

// Len is how many words there are.
func (m *Mem) Len() int {
	if m == nil {
		return 0
	}
	return len(m.words)
}

// Read is a word, in one step.
func (m *Mem) Read(at int) (uint32, api.Errno) {
	if e := m.within(place(at)); e != api.OK {
		return 0, e
	}
	m.steps++
	return m.words[at], api.OK
}

// Write changes a word, in one step.
func (m *Mem) Write(at int, w uint32) api.Errno {
	if e := m.within(place(at)); e != api.OK {
		return e
	}
	m.steps++
	m.words[at] = w
	return api.OK
}

// Cas changes a word, if it is as it was, in one step.
func (m *Mem) Cas(at int, was, now uint32) (bool, api.Errno) {
	if e := m.within(place(at)); e != api.OK {
		return false, e
	}
	m.steps++
	if m.words[at] != was {
		return false, api.OK
	}
	m.words[at] = now
	return true, api.OK
}

// Steps is how many steps were made.
func (m *Mem) Steps() int {
	if m == nil {
		return 0
	}
	return m.steps
}

// Look is a region's words.
func (m *Mem) Look(r api.Region) ([]uint32, api.Errno) {
	if e := m.within(r); e != api.OK {
		return nil, e
	}
	return slices.Clone(m.words[r.At : r.At+r.Len]), api.OK
}

// Fill lays words from a place on.
func (m *Mem) Fill(at int, l []uint32) api.Errno {
	if e := m.within(api.Region{At: at, Len: len(l)}); e != api.OK {
		return e
	}
	copy(m.words[at:], l)
	return api.OK
}

// Clone is a memory like this one.
func (m *Mem) Clone() *Mem {
	if m == nil {
		return nil
	}
	return &Mem{words: slices.Clone(m.words), steps: m.steps}
}

// place is the region of one word.
func place(at int) api.Region { return api.Region{At: at, Len: 1} }

// within tells what is wrong with a region of this memory.
func (m *Mem) within(r api.Region) api.Errno {
	if m == nil {
		return api.ErrArg
	}
	if !Inside(len(m.words), r) {
		return api.ErrRange
	}
	return api.OK
}

// Inside tells whether a region lies within so many words.
func Inside(size int, r api.Region) bool {
	// What is left behind At is held against Len, since At and Len together may go round.
	return isRegion(r) && r.At <= size && r.Len <= size-r.At
}

// isRegion tells whether a region is one.
func isRegion(r api.Region) bool { return r.At >= 0 && r.Len >= 0 }

// Apart tells whether two regions have nothing in common.
func Apart(a, b api.Region) bool {
	if !isRegion(a) || !isRegion(b) {
		return false
	}
	if a.Len == 0 || b.Len == 0 {
		return true
	}
	if b.At < a.At {
		a, b = b, a
	}
	// The way between is held against Len, since At and Len together may go round.
	return b.At-a.At >= a.Len
}

// Cut is regions of some lengths, one behind the other.
func Cut(size int, lens []int) ([]api.Region, api.Errno) {
	for _, n := range lens {
		if n < 0 {
			return nil, api.ErrArg
		}
	}
	if size < 0 {
		return nil, api.ErrRoom
	}
	l := make([]api.Region, len(lens))
	at := 0
	for i, n := range lens {
		// The room is held against n, since a sum of lengths may go round.
		if n > size-at {
			return nil, api.ErrRoom
		}
		l[i] = api.Region{At: at, Len: n}
		at += n
	}
	return l, api.OK
}
