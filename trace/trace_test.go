package trace_test

import (
	"math"
	"math/rand/v2"
	"slices"
	"strconv"
	"strings"
	"testing"

	"coxswain/api"
	"coxswain/trace"
)

type event = api.Event

// lines are events, and their lines.
func lines() map[string]event {
	top := strconv.Itoa(api.Top)
	return map[string]event{
		"5 step 1 0 3":                          {T: 5, Kind: api.EvStep, Task: 1, B: 3},
		"6 idle - 0 0":                          {T: 6, Kind: api.EvIdle, Task: -1},
		"0 release 0 0 0":                       {Kind: api.EvRelease},
		"10 refuse 7 0 0":                       {T: 10, Kind: api.EvRefuse, Task: 7},
		"65535 over 2 0 0":                      {T: 65535, Kind: api.EvOver, Task: 2},
		"1 miss 3 12 0":                         {T: 1, Kind: api.EvMiss, Task: 3, A: 12},
		"1 done 3 12 40":                        {T: 1, Kind: api.EvDone, Task: 3, A: 12, B: 40},
		"1 call 3 7 4":                          {T: 1, Kind: api.EvCall, Task: 3, A: 7, B: 4},
		"1 back 3 7 1":                          {T: 1, Kind: api.EvBack, Task: 3, A: 7, B: 1},
		"9 step - 1 2":                          {T: 9, Kind: api.EvStep, Task: -1, A: 1, B: 2},
		"9 idle 0 1 2":                          {T: 9, Kind: api.EvIdle, A: 1, B: 2},
		top + " back 0 0 0":                     {T: api.Top, Kind: api.EvBack},
		"0 back " + top + " " + top + " " + top: {Kind: api.EvBack, Task: api.Top, A: api.Top, B: api.Top},
	}
}

// P43.3, P43.4: events and their lines; the chapter's examples.
func TestLines(t *testing.T) {
	for want, e := range lines() {
		if s, ok := trace.Line(e); s != want || !ok || !trace.Right(e) {
			t.Errorf("%v: %q, %t", e, s, ok)
		}
		if got, ok := trace.Read(want); got != e || !ok {
			t.Errorf("%q: %v, %t", want, got, ok)
		}
	}
}

// P43.2: which events are right, each bound itself with them. P43.3: those that are not have no line.
func TestRight(t *testing.T) {
	good := event{T: 5, Kind: api.EvDone, Task: 2, A: 3, B: 4}
	set := map[string]func(e *event, n int){
		"T": func(e *event, n int) { e.T = n }, "Kind": func(e *event, n int) { e.Kind = n }, "Task": func(e *event, n int) { e.Task = n },
		"A": func(e *event, n int) { e.A = n }, "B": func(e *event, n int) { e.B = n },
	}
	least := map[string]int{"Kind": 1, "Task": -1}
	most := map[string]int{"T": 1 << 40, "Kind": 9, "Task": 1 << 40, "A": 1 << 40, "B": 1 << 40}
	for name, change := range set {
		for _, n := range []int{math.MinInt, -3, -2, -1, 0, 1, 2, 8, 9, 10, 11, 1<<40 - 1, 1 << 40, 1<<40 + 1, 1 << 41, math.MaxInt} {
			e := good
			change(&e, n)
			want := n >= least[name] && n <= most[name]
			if trace.Right(e) != want {
				t.Errorf("%s %d: right: %t", name, n, !want)
			}
			s, ok := trace.Line(e)
			if ok != want || !ok && s != "" {
				t.Errorf("%s %d: %q, %t", name, n, s, ok)
			}
			for _, l := range [][]event{{e}, {good, e}, {e, good}, {good, e, good}} {
				if s, ok := trace.Print(l); ok != want || !ok && s != "" {
					t.Errorf("%s %d: printed %q, %t", name, n, s, ok)
				}
			}
			if got, read := trace.Read(s); ok && (got != e || !read) {
				t.Errorf("%q: %v, %t", s, got, read)
			}
		}
	}
	if trace.Right(event{}) {
		t.Error("the zero one is right")
	}
}

// P43.3: what is no event's line.
func TestWrongLines(t *testing.T) {
	for _, s := range []string{
		"", " ", "5", "5 step", "5 step 1 0", "5 step 1 0 ", "5 step 1 0 3 ", "5 step 1 0 3 4", " 5 step 1 0 3", "5  step 1 0 3", "5 step 1 0  3", "5 step 1 0 3\n", "5 step 1 0 3\r",
		"05 step 1 0 3", "5 step 01 0 3", "5 step 1 00 3", "5 step 1 0 03", "+5 step 1 0 3", "-5 step 1 0 3", "5 step -1 0 3", "5 step -2 0 3", "5 step -0 0 3", "5 step 1 -0 3", "5 step 1 0 -3", "5 step 1 - 3", "5 step 1 0 -", "- step 1 0 3",
		"5 Step 1 0 3", "5 steps 1 0 3", "5  1 0 3", "5 4 1 0 3", "5 task 1 0 3", "5 step -- 0 3", "x step 1 0 3", "5 step x 0 3", "5 step 1 x 3", "5 step 1 0 x", "5 step 1 0 1_0", "5 step 1 0 0x3", "5 step 1 0 3.0", "5 step 1 0 1e3",
		"1099511627777 step 1 0 3", "5 step 1099511627777 0 3", "5 step 1 1099511627777 3", "5 step 1 0 1099511627777", "5 step 1 0 18446744073709551619", "5 step 1 0 99999999999999999999999999", "5\tstep\t1\t0\t3", "5 step 1 0\x003",
		strings.Repeat("5 ", 100000), strings.Repeat("5", 100000) + " step 1 0 3",
	} {
		if e, ok := trace.Read(s); ok || e != (event{}) {
			t.Errorf("%.40q: %v, %t", s, e, ok)
		}
		if l, at, e := trace.Parse("1 idle - 0 0\n" + s + "\n"); !strings.Contains(s, "\n") && (len(l) != 0 || at != 2 || e != api.ErrForm) {
			t.Errorf("%.40q: parsed %v, %d, %d", s, l, at, e)
		}
		if l, at, e := trace.Parse("1 idle - 0 0\n" + s); s != "" && !strings.Contains(s, "\n") && (len(l) != 0 || at != 2 || e != api.ErrEnd) {
			t.Errorf("%.40q, not ended: parsed %v, %d, %d", s, l, at, e)
		}
	}
}

// near goes through all texts that come of one by a byte more, less, or otherwise.
func near(s string, yield func(string)) {
	for at := range len(s) + 1 {
		for _, b := range []byte(" \n0123456789-+_stepidlcabx\t\r\x00\xff") {
			yield(s[:at] + string([]byte{b}) + s[at:])
			if at < len(s) {
				yield(s[:at] + string([]byte{b}) + s[at+1:])
			}
		}
		if at < len(s) {
			yield(s[:at] + s[at+1:])
			yield(s[:at])
		}
	}
}

// P43.3, P43.4: whatever is read is the event whose line it is.
func TestNearLines(t *testing.T) {
	read := 0
	for line := range lines() {
		near(line, func(s string) {
			e, ok := trace.Read(s)
			if !ok && e == (event{}) {
				return
			}
			read++
			if again, right := trace.Line(e); !ok || !right || again != s || !trace.Right(e) {
				t.Errorf("%q: %v, %t, whose line is %q", s, e, ok, again)
			}
		})
	}
	if read < 1000 {
		t.Errorf("just %d texts were read", read)
	}
}

// P43.3: Parse tells the first line that is wrong.
func TestParse(t *testing.T) {
	idle := "6 idle - 0 0\n"
	for _, c := range []struct {
		s  string
		at int
		e  api.Errno
	}{
		{"", 0, api.OK}, {idle, 0, api.OK}, {idle + idle, 0, api.OK}, {"\n", 1, api.ErrForm}, {"x\n", 1, api.ErrForm}, {"x", 1, api.ErrEnd}, {"6 idle - 0 0", 1, api.ErrEnd}, {idle + "6 idle - 0 0", 2, api.ErrEnd},
		{idle + "x", 2, api.ErrEnd}, {idle + "x\n" + idle, 2, api.ErrForm}, {"x\n6 idle - 0 0", 1, api.ErrForm}, {idle + "x\ny\nz", 2, api.ErrForm}, {idle + "\n", 2, api.ErrForm}, {idle + " ", 2, api.ErrEnd},
		{idle + "6 idle - 0\n", 2, api.ErrForm}, {"6 idle - 0 0\r\n", 1, api.ErrForm}, {strings.Repeat(idle, 100000) + "x\n", 100001, api.ErrForm}, {strings.Repeat(idle, 100000) + "x", 100001, api.ErrEnd},
	} {
		l, at, e := trace.Parse(c.s)
		if at != c.at || e != c.e || e != api.OK && len(l) != 0 {
			t.Errorf("%.40q: %.3v, %d, %d", c.s, l, at, e)
		}
		if s, ok := trace.Print(l); e == api.OK && (s != c.s || !ok) {
			t.Errorf("%.40q: printed %.40q", c.s, s)
		}
	}
	if s, ok := trace.Print(nil); s != "" || !ok {
		t.Errorf("%q, %t", s, ok)
	}
}

// some is so many events, right ones, of few kinds, tasks and times.
func some(r *rand.Rand, n int) []event {
	l := make([]event, n)
	for i := range l {
		l[i] = event{T: r.IntN(4), Kind: 1 + r.IntN(9), Task: r.IntN(4) - 1, A: r.IntN(20), B: r.IntN(1 << 40)}
	}
	return l
}

// P43.3, P43.4: Parse of Print is what there was, also of long lists (a text of events has no bound).
func TestPrintAndParse(t *testing.T) {
	r := rand.New(rand.NewPCG(43, 4))
	for _, n := range []int{0, 1, 2, 3, 10, 1000, 100000} {
		l := some(r, n)
		s, ok := trace.Print(l)
		if !ok || strings.Count(s, "\n") != n {
			t.Errorf("%d events: %d lines, %t", n, strings.Count(s, "\n"), ok)
		}
		if got, at, e := trace.Parse(s); !slices.Equal(got, l) || at != 0 || e != api.OK {
			t.Errorf("%d events: parsed %d, %d, %d", n, len(got), at, e)
		}
	}
	two := []event{{T: 5, Kind: api.EvStep, Task: 1, B: 3}, {T: 6, Kind: api.EvIdle, Task: -1}}
	if s, ok := trace.Print(two); s != "5 step 1 0 3\n6 idle - 0 0\n" || !ok {
		t.Errorf("%q, %t", s, ok)
	}
}

// P43.2: Rises, of all short rows of times.
func TestRises(t *testing.T) {
	for n := range 256 {
		l := []event{{T: n % 4}, {T: n / 4 % 4}, {T: n / 16 % 4}, {T: n / 64}}
		want := l[0].T <= l[1].T && l[1].T <= l[2].T && l[2].T <= l[3].T
		if trace.Rises(l) != want {
			t.Errorf("%v: %t", l, !want)
		}
	}
	for want, l := range map[bool][]event{true: {{T: math.MinInt}, {T: -1}, {T: -1}, {T: math.MaxInt}}, false: {{T: math.MinInt}, {T: math.MaxInt}, {T: math.MinInt}}} {
		if trace.Rises(l) != want {
			t.Errorf("%v: %t", l, !want)
		}
	}
	if !trace.Rises(nil) || !trace.Rises([]event{}) || !trace.Rises([]event{{T: -5}}) || trace.Rises([]event{{T: 0}, {T: -1}}) {
		t.Error("short rows")
	}
}

// P43.2: Of, and Count, of events of all sorts, also of kinds and tasks that are none.
func TestOf(t *testing.T) {
	r := rand.New(rand.NewPCG(43, 2))
	for range 500 {
		l := some(r, r.IntN(30))
		for i := range l {
			if r.IntN(8) == 0 {
				l[i].Kind, l[i].Task = r.IntN(12)-1, r.IntN(7)-3
			}
		}
		for kind := -1; kind <= 11; kind++ {
			for task := -3; task <= 4; task++ {
				var want []event
				for _, e := range l {
					if (kind == 0 || e.Kind == kind) && (task == -2 || e.Task == task) {
						want = append(want, e)
					}
				}
				if got := trace.Of(l, kind, task); !slices.Equal(got, want) || trace.Count(l, kind, task) != len(want) {
					t.Fatalf("kind %d, task %d of %v: %v", kind, task, l, got)
				}
			}
		}
	}
	if len(trace.Of(nil, 0, -2)) != 0 || trace.Count(nil, 0, -2) != 0 || trace.Count([]event{{Kind: math.MaxInt, Task: math.MinInt}}, math.MaxInt, math.MinInt) != 1 {
		t.Error("none, or strange ones")
	}
}

// P43.1: what is handed in is not changed, what is told shares nothing.
func TestApart(t *testing.T) {
	l := some(rand.New(rand.NewPCG(43, 1)), 9)
	was := slices.Clone(l)
	of := trace.Of(l, 0, -2)
	clear(of[:cap(of)])
	s, _ := trace.Print(l)
	parsed, _, _ := trace.Parse(s)
	clear(parsed[:cap(parsed)])
	again, _, _ := trace.Parse(s)
	if !slices.Equal(l, was) || !slices.Equal(trace.Of(l, 0, -2), was) || !slices.Equal(again, was) {
		t.Error(l)
	}
}
