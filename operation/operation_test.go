package operation_test

import (
	"math"
	"slices"
	"testing"

	"coxswain/api"
	"coxswain/mem"
	"coxswain/operation"
)

// made is a part of an operation on five words from 2 on, with records of two words and two attempts.
func made(t *testing.T, op int, rec ...uint32) (*operation.Part, *mem.Mem) {
	t.Helper()
	o := api.Object{Kind: api.Seq, Width: 2, Cap: 2, Readers: []int{1, 2}}
	p, e := operation.Begin(o, 5, 2, op, 0, rec)
	m, _ := mem.New(7)
	if e != api.OK || m.Fill(0, []uint32{90, 91, 10, 11, 12, 13, 14}) != api.OK {
		t.Fatalf("Begin: %d", e)
	}
	return &p, m
}

// The first bounds are themselves within.
func TestWithin(t *testing.T) {
	for n, want := range map[int]bool{math.MinInt: false, 1: false, 2: true, 3: true, 4: true, 5: false, math.MaxInt: false} {
		if operation.Within(n, 2, 4) != want {
			t.Errorf("%d is not %v", n, want)
		}
	}
	if operation.Within(3, 4, 2) {
		t.Error("bounds of nothing")
	}
}

// A nil part, and one that was never begun, are over, without an answer.
func TestNone(t *testing.T) {
	m, _ := mem.New(1)
	for _, p := range []*operation.Part{nil, {}} {
		if rec, code := p.Answer(); !p.Over() || p.Steps() != 0 || len(rec) != 0 || code != api.Good {
			t.Errorf("%v", p)
		}
	}
	if none := (operation.Part{}); none.May(m) {
		t.Error("one that was never begun has a step")
	}
}

// Stages: the step of one is made as often as it is told, and an attempt leads back to the first.
func TestStages(t *testing.T) {
	p, _ := made(t, api.OpRead)
	for n, want := range []bool{false, false, true, false, false, true} {
		if got := p.Repeat(3); got != want || p.Turn != (n+1)%3 || p.Stage != 1+(n+1)/3 {
			t.Fatalf("%v: turn %d of stage %d", got, p.Turn, p.Stage)
		}
	}
	p.Repeat(3)
	if !p.Again() || p.Stage != 1 || p.Turn != 0 {
		t.Errorf("the second attempt: turn %d of stage %d", p.Turn, p.Stage)
	}
	if p.Again() {
		t.Error("a third attempt of two")
	}
}

// A record is read, or written, word by word, each in a step.
func TestRecord(t *testing.T) {
	p, m := made(t, api.OpRead)
	if p.Record(m, 1) || !p.Record(m, 1) || p.Steps() != 2 {
		t.Errorf("%d steps", p.Steps())
	}
	p.End(api.Good)
	if rec, code := p.Answer(); !slices.Equal(rec, []uint32{11, 12}) || code != api.Good || p.May(m) {
		t.Errorf("%v, %d", rec, code)
	}
	p, m = made(t, api.OpWrite, 7, 8)
	if p.Record(m, 3) || !p.Record(m, 3) || p.Steps() != 2 || m.Steps() != 2 {
		t.Errorf("%d steps", p.Steps())
	}
	if l, _ := m.Look(api.Region{Len: 7}); !slices.Equal(l, []uint32{90, 91, 10, 11, 12, 7, 8}) {
		t.Errorf("%v", l)
	}
}
