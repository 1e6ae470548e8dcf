package asm_test

import (
	"fmt"
	"math"
	"slices"
	"strings"
	"testing"

	"coxswain/api"
	"coxswain/asm"
	"coxswain/isa"
)

type instr = api.Instr

// lines are instructions of all kinds, with the least and the greatest operands.
var lines = []struct {
	i instr
	s string
}{
	{instr{}, "nop"},
	{instr{Op: api.Set, A: 1, N: 5}, "set r1 5"},
	{instr{Op: api.Set, A: 7, N: math.MaxUint32}, "set r7 4294967295"},
	{instr{Op: api.Set}, "set r0 0"},
	{instr{Op: api.Move, A: 1, B: 2}, "move r1 r2"},
	{instr{Op: api.Add, A: 1, B: 2, C: 3}, "add r1 r2 r3"},
	{instr{Op: api.Sub, A: 7, B: 0, C: 7}, "sub r7 r0 r7"},
	{instr{Op: api.Mul, A: 0, B: 1, C: 2}, "mul r0 r1 r2"},
	{instr{Op: api.And, A: 3, B: 4, C: 5}, "and r3 r4 r5"},
	{instr{Op: api.Or, A: 6, B: 5, C: 4}, "or r6 r5 r4"},
	{instr{Op: api.Xor, A: 1, B: 1, C: 1}, "xor r1 r1 r1"},
	{instr{Op: api.Less, A: 2, B: 3, C: 4}, "less r2 r3 r4"},
	{instr{Op: api.Equal, A: 4, B: 3, C: 2}, "equal r4 r3 r2"},
	{instr{Op: api.Load, A: 1, B: 2, N: 10}, "load r1 r2 10"},
	{instr{Op: api.Store, A: 3, B: 4, N: math.MaxUint32}, "store r3 r4 4294967295"},
	{instr{Op: api.Cas, A: 1, B: 2, C: 3, N: 4}, "cas r1 r2 r3 4"},
	{instr{Op: api.Jump, N: 63}, "jump 63"},
	{instr{Op: api.Jump}, "jump 0"},
	{instr{Op: api.Zero, A: 5, N: 12}, "zero r5 12"},
	{instr{Op: api.Back, C: 7, N: 3}, "back 3 7"},
	{instr{Op: api.Back, C: 255, N: 63}, "back 63 255"},
	{instr{Op: api.Back, C: 1, N: 0}, "back 0 1"},
	{instr{Op: api.Read, A: 0, B: 2, N: 16}, "read r0 o2 16"},
	{instr{Op: api.Write, A: 7, B: 7, N: 63}, "write r7 o7 63"},
	{instr{Op: api.Put, A: 1, B: 0, N: 0}, "put r1 o0 0"},
	{instr{Op: api.Take, A: 3, B: 1, N: 9}, "take r3 o1 9"},
	{instr{Op: api.Done}, "done"},
}

// wrongLines are lines that are no instruction's.
var wrongLines = []string{
	"", " ", "nop ", " nop", "nop\n", "nop 0", "nopp", "NOP", "Nop", "halt", "nop\x00", "done\r", "done done",
	"set", "set r1", "set r1 ", "set r1  5", "set  r1 5", "set r1 5 ", "set r1 5 6", "set\tr1 5", "set r8 5", "set r10 5", "set r 5", "set 1 5", "set R1 5", "set o1 5",
	"set r01 5", "set r1 05", "set r1 00", "set r1 +5", "set r1 -1", "set r1 r5", "set r1 0x5", "set r1 4294967296", "set r1 99999999999999999999", "set r1 5.", "set r1 five", "set 5 r1", "set r-1 5", "set r1 \u0663",
	"move r1", "move r1 r2 0", "move r1 2", "add r1 r2", "add r1 r2 r3 0", "add r1 r2 3", "add r1 r2 r8",
	"load r1 2 r2", "load r1 r2", "cas r1 r2 4 r3", "cas r1 r2 r3", "cas r1 r2 r3 4 5", "cas r1 r2 r3 4 5 6 7 8",
	"jump", "jump 64", "jump r1", "jump -1", "zero 12 r5", "zero r5 64", "back 3", "back 7 0", "back 64 7", "back 3 256", "back 3 r7", "back r3 7", "back 3 07",
	"read r0 r2 16", "read r0 2 16", "read r0 o8 16", "read r0 o2 64", "read o2 r0 16", "read r0 16 o2", "read r0 o02 16", "put r1 o0", "take r3 o1 9 0",
	"nop\x00\x00", "\xff\xfe", "n\u00f6p", "\u00a0", strings.Repeat(" ", 100000), strings.Repeat("r", 100000), "set r1 " + strings.Repeat("0", 100000),
}

// wrong are instructions that are not right.
var wrong = []instr{
	{Op: -1}, {Op: 22}, {Op: math.MinInt}, {Op: math.MaxInt}, {Op: api.Nop, A: 1}, {Op: api.Done, N: 1}, {Op: api.Set, A: 8}, {Op: api.Set, A: -1}, {Op: api.Set, B: 1},
	{Op: api.Add, C: 8}, {Op: api.Add, N: 1}, {Op: api.Jump, N: 64}, {Op: api.Back}, {Op: api.Back, C: 256}, {Op: api.Back, C: 1, A: 1}, {Op: api.Read, B: 8}, {Op: api.Read, N: 64}, {Op: api.Read, C: 1},
}

// P9.2, P9.4: lines, both ways.
func TestLines(t *testing.T) {
	for _, l := range lines {
		if s, ok := asm.Line(l.i); s != l.s || !ok {
			t.Errorf("Line(%v): %q, %v, not %q", l.i, s, ok, l.s)
		}
		if i, ok := asm.Read(l.s); i != l.i || !ok {
			t.Errorf("Read(%q): %v, %v", l.s, i, ok)
		}
	}
}

// P9.2: wrong lines, and wrong instructions.
func TestWrongLines(t *testing.T) {
	for _, s := range wrongLines {
		if i, ok := asm.Read(s); ok || i != (instr{}) {
			t.Errorf("Read(%.40q): %v, %v", s, i, ok)
		}
	}
	for _, i := range wrong {
		if s, ok := asm.Line(i); ok || s != "" {
			t.Errorf("Line(%v): %q, %v", i, s, ok)
		}
	}
}

// near goes through all texts that come of one by a byte more, less, or otherwise.
func near(s string, yield func(string)) {
	for at := range len(s) + 1 {
		for _, b := range []byte(" \n\t0123456789rRoO-+_xnNdDs\x00\xff") {
			yield(s[:at] + string([]byte{b}) + s[at:])
			if at < len(s) {
				yield(s[:at] + string([]byte{b}) + s[at+1:])
			}
		}
		if at < len(s) {
			yield(s[:at] + s[at+1:])
		}
	}
}

// P9.2, P9.4: whatever is read is the right instruction whose line it is.
func TestNearLines(t *testing.T) {
	read := 0
	for _, l := range lines {
		near(l.s, func(s string) {
			i, ok := asm.Read(s)
			if !ok && i == (instr{}) {
				return
			}
			read++
			if again, right := asm.Line(i); !ok || !right || again != s || !isa.Right(i) {
				t.Errorf("Read(%q): %v, %v, whose line is %q", s, i, ok, again)
			}
		})
	}
	if read < 500 {
		t.Errorf("just %d texts were read", read)
	}
}

// P9.2, P9.4: all operands of some kinds, and their lines.
func TestAllOperands(t *testing.T) {
	check := func(i instr, s string) {
		line, ok := asm.Line(i)
		if line != s || !ok {
			t.Fatalf("Line(%v): %q", i, line)
		}
		if back, ok := asm.Read(s); back != i || !ok {
			t.Fatalf("Read(%q): %v", s, back)
		}
	}
	for n := range 64 {
		check(instr{Op: api.Jump, N: uint32(n)}, fmt.Sprintf("jump %d", n))
		for c := 1; c < 256; c++ {
			check(instr{Op: api.Back, C: c, N: uint32(n)}, fmt.Sprintf("back %d %d", n, c))
		}
		for a := range 8 {
			for o := range 8 {
				check(instr{Op: api.Take, A: a, B: o, N: uint32(n)}, fmt.Sprintf("take r%d o%d %d", a, o, n))
				check(instr{Op: api.Cas, A: a, B: o, C: n % 8, N: uint32(n)}, fmt.Sprintf("cas r%d r%d r%d %d", a, o, n%8, n))
				check(instr{Op: api.Less, A: a, B: o, C: n % 8}, fmt.Sprintf("less r%d r%d r%d", a, o, n%8))
			}
		}
	}
}

// P9.3, P9.4: all lines as one text.
func TestPrintAndParse(t *testing.T) {
	var p []instr
	var text string
	for _, l := range lines {
		p, text = append(p, l.i), text+l.s+"\n"
		was := slices.Clone(p)
		s, ok := asm.Print(p)
		if s != text || !ok || !slices.Equal(p, was) {
			t.Fatalf("Print(%v): %q, %v", p, s, ok)
		}
		back, at, e := asm.Parse(s)
		if !slices.Equal(back, p) || at != 0 || e != api.OK {
			t.Fatalf("Parse(%q): %v, %d, %d", s, back, at, e)
		}
	}
	for _, none := range [][]instr{nil, {}} {
		if s, ok := asm.Print(none); s != "" || !ok {
			t.Errorf("Print of none: %q, %v", s, ok)
		}
	}
	for _, i := range wrong {
		for at := range len(p) + 1 {
			if s, ok := asm.Print(slices.Insert(slices.Clone(p), at, i)); s != "" || ok {
				t.Errorf("Print of %v at %d: %q", i, at, s)
			}
		}
	}
}

// P9.3: the errors of texts, and the numbers of their lines.
func TestParseErrors(t *testing.T) {
	for _, c := range []struct {
		s  string
		at int
		e  api.Errno
	}{
		{"", 0, api.OK},
		{"\n", 1, api.ErrForm},
		{"nop", 1, api.ErrEnd},
		{"nonsense", 1, api.ErrEnd},
		{"nonsense\n", 1, api.ErrForm},
		{" ", 1, api.ErrEnd},
		{"nop\ndone", 2, api.ErrEnd},
		{"nop\nnonsense", 2, api.ErrEnd},
		{"nop\n ", 2, api.ErrEnd},
		{"nonsense\ndone", 1, api.ErrForm},
		{"nop\nnonsense\ndone", 2, api.ErrForm},
		{"nop\nnonsense\nnonsense\n", 2, api.ErrForm},
		{"nop\n\ndone\n", 2, api.ErrForm},
		{"nop\ndone\n\n", 3, api.ErrForm},
		{"\nnop\n", 1, api.ErrForm},
		{"nop\r\ndone\r\n", 1, api.ErrForm},
		{"nop\ndone \n", 2, api.ErrForm},
		{"nop\ndone\n", 0, api.OK},
	} {
		p, at, e := asm.Parse(c.s)
		if at != c.at || e != c.e || e != api.OK && len(p) != 0 {
			t.Errorf("Parse(%q): %v, %d, %d, not %d, %d", c.s, p, at, e, c.at, c.e)
		}
	}
}

// P9.3: how long a text may be.
func TestParseRoom(t *testing.T) {
	full := strings.Repeat("nop\n", api.MaxBytes/4)
	if p, at, e := asm.Parse(full); len(p) != api.MaxBytes/4 || at != 0 || e != api.OK {
		t.Errorf("a text of MaxBytes: %d, %d, %d", len(p), at, e)
	}
	wide := strings.Repeat("nop\n", api.MaxBytes/4-1)
	for s, want := range map[string]struct {
		at int
		e  api.Errno
	}{
		full + "\n":                            {0, api.ErrRoom},
		full + "nop\n":                         {0, api.ErrRoom},
		"x" + full:                             {0, api.ErrRoom},
		strings.Repeat("x", api.MaxBytes+1):    {0, api.ErrRoom},
		strings.Repeat("x", api.MaxBytes):      {1, api.ErrEnd},
		strings.Repeat("\n", api.MaxBytes):     {1, api.ErrForm},
		wide + "nop ":                          {api.MaxBytes / 4, api.ErrEnd},
		wide + "nop":                           {api.MaxBytes / 4, api.ErrEnd},
		wide + "no\n":                          {api.MaxBytes / 4, api.ErrForm},
		"x\n" + wide:                           {1, api.ErrForm},
		strings.Repeat("done\n", api.MaxBytes): {0, api.ErrRoom},
	} {
		if p, at, e := asm.Parse(s); len(p) != 0 || at != want.at || e != want.e {
			t.Errorf("Parse of %d bytes, %.20q: %d, %d, %d, not %v", len(s), s, len(p), at, e, want)
		}
	}
}

// P9.4: a text that is parsed is printed so: all that come of a text by one byte.
func TestNearTexts(t *testing.T) {
	near("nop\nset r1 5\nback 0 3\nzero r2 4\nread r0 o2 16\ndone\n", func(s string) {
		p, at, e := asm.Parse(s)
		if e != api.OK {
			if len(p) != 0 || at < 1 || at > strings.Count(s, "\n")+1 {
				t.Errorf("Parse(%q): %v, %d, %d", s, p, at, e)
			}
			return
		}
		if again, ok := asm.Print(p); !ok || again != s || at != 0 {
			t.Errorf("Parse(%q): %v, printed %q", s, p, again)
		}
	})
}
