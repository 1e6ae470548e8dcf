package script_test

import (
	"math"
	"math/rand/v2"
	"slices"
	"strconv"
	"strings"
	"testing"

	"coxswain/api"
	"coxswain/script"
)

type act = api.Act

// run, and ask, are acts of a number.
func run(n int) act { return act{Kind: api.ActRun, N: n} }
func ask(n int) act { return act{Kind: api.ActAsk, N: n} }

// many is so many times the same act.
func many(a act, times int) []act { return slices.Repeat([]act{a}, times) }

// P42: the chapter's example.
func TestExample(t *testing.T) {
	l := []act{run(3), ask(1), run(2)}
	if script.Ticks(l) != 5 || !script.Right(l) || !slices.Equal(script.Asks(l), []api.Due{{At: 3, Task: 1}}) || !slices.Equal(script.At(l, 3), []int{1}) {
		t.Error(script.Ticks(l), script.Right(l), script.Asks(l), script.At(l, 3))
	}
	if s, ok := script.Print(l); s != "run 3\nask 1\nrun 2\n" || !ok {
		t.Errorf("%q, %t", s, ok)
	}
}

// rights are acts, and whether they are right.
func rights() []struct {
	name string
	l    []act
	want bool
} {
	return []struct {
		name string
		l    []act
		want bool
	}{
		{"none", nil, true},
		{"an empty list", []act{}, true},
		{"no ticks", []act{run(0)}, true},
		{"MaxTicks", []act{run(api.MaxTicks)}, true},
		{"a tick more", []act{run(api.MaxTicks + 1)}, false},
		{"MaxTicks, and none", []act{run(api.MaxTicks), run(0), ask(0)}, true},
		{"MaxTicks, and one", []act{run(api.MaxTicks), run(1)}, false},
		{"one, and MaxTicks", []act{run(1), ask(0), run(api.MaxTicks)}, false},
		{"MaxTicks in two", []act{run(api.MaxTicks / 2), ask(7), run(api.MaxTicks / 2)}, true},
		{"more in two", []act{run(api.MaxTicks / 2), ask(7), run(api.MaxTicks/2 + 1)}, false},
		{"fewer than no ticks", []act{run(-1)}, false},
		{"fewer than no ticks, and MaxTicks", []act{run(-1), run(api.MaxTicks)}, false},
		{"the least number of ticks", []act{run(math.MinInt)}, false},
		{"the greatest number of ticks", []act{run(math.MaxInt)}, false},
		{"twice the greatest number of ticks", []act{run(math.MaxInt), run(math.MaxInt)}, false},
		{"the first task", []act{ask(0)}, true},
		{"the last task", []act{ask(api.MaxTasks - 1)}, true},
		{"a task behind the last one", []act{ask(api.MaxTasks)}, false},
		{"a task below 0", []act{ask(-1)}, false},
		{"the greatest task", []act{ask(math.MaxInt)}, false},
		{"kind 0", []act{{N: 1}}, false},
		{"kind 3", []act{{Kind: 3, N: 1}}, false},
		{"a kind below 0", []act{{Kind: -1, N: 1}}, false},
		{"the greatest kind", []act{{Kind: math.MaxInt, N: 1}}, false},
		{"a wrong one behind right ones", []act{run(1), ask(1), ask(8)}, false},
		{"a wrong one ahead of right ones", []act{ask(8), run(1), ask(1)}, false},
		{"MaxActs", many(ask(3), api.MaxActs), true},
		{"one more", many(ask(3), api.MaxActs+1), false},
		{"MaxActs, of no ticks", many(run(0), api.MaxActs), true},
		{"one more, of no ticks", many(run(0), api.MaxActs+1), false},
		{"MaxTicks in MaxActs", append(many(run(65), api.MaxActs-1), run(api.MaxTicks-65*(api.MaxActs-1))), true},
		{"more in MaxActs", append(many(run(65), api.MaxActs-1), run(api.MaxTicks+1-65*(api.MaxActs-1))), false},
	}
}

// P42.2: Right, each bound itself with it. P42.3, P42.4: of right acts there is a text, of which they are parsed; of others there is none.
func TestRight(t *testing.T) {
	for _, c := range rights() {
		if script.Right(c.l) != c.want {
			t.Errorf("%s: right: %t", c.name, !c.want)
		}
		s, ok := script.Print(c.l)
		if ok != c.want || !ok && s != "" {
			t.Errorf("%s: printed %.40q, %t", c.name, s, ok)
		}
		if !ok {
			continue
		}
		if l, at, e := script.Parse(s); !slices.Equal(l, c.l) || at != 0 || e != api.OK {
			t.Errorf("%s: parsed %v, %d, %d", c.name, l, at, e)
		}
	}
}

// P42.2: Ticks are at most Top; of what is below 0, and of what does not run, there are none.
func TestTicks(t *testing.T) {
	for _, c := range []struct {
		l    []act
		want int
	}{
		{nil, 0}, {[]act{ask(3)}, 0}, {[]act{run(3)}, 3}, {[]act{run(3), run(0), run(4)}, 7}, {[]act{run(-3)}, 0}, {[]act{run(5), run(-3), run(1)}, 6}, {[]act{run(math.MinInt), run(2)}, 2},
		{[]act{run(2), {Kind: 0, N: 5}, {Kind: 3, N: 5}, {Kind: -1, N: 5}, ask(5)}, 2},
		{[]act{run(api.Top)}, api.Top}, {[]act{run(api.Top - 1), run(1)}, api.Top}, {[]act{run(api.Top), run(1)}, api.Top}, {[]act{run(math.MaxInt)}, api.Top},
		{[]act{run(math.MaxInt), run(math.MaxInt), run(-1)}, api.Top}, {[]act{run(api.Top - 2), run(1)}, api.Top - 1}, {many(run(api.MaxTicks), 2000), 2000 * api.MaxTicks},
	} {
		if got := script.Ticks(c.l); got != c.want {
			t.Errorf("%.5v: %d, not %d", c.l, got, c.want)
		}
	}
}

// asked is what is asked for at a time, word by word: of each ask the ticks of all acts ahead of it.
func asked(l []act, t int) []int {
	var tasks []int
	for i, a := range l {
		if a.Kind == api.ActAsk && script.Ticks(l[:i]) == t {
			tasks = append(tasks, a.N)
		}
	}
	return tasks
}

// P42.2: Asks, and At, of acts of all sorts.
func TestAsks(t *testing.T) {
	r := rand.New(rand.NewPCG(42, 2))
	numbers := []int{0, 0, 1, 2, 3, 7, 8, -1, math.MinInt, api.Top, math.MaxInt}
	for range 5000 {
		l := make([]act, r.IntN(8))
		for i := range l {
			l[i] = act{Kind: min(r.IntN(5), 1+r.IntN(2)), N: numbers[min(r.IntN(len(numbers)), r.IntN(len(numbers)))]}
		}
		var want []api.Due
		for i, a := range l {
			if a.Kind == api.ActAsk {
				want = append(want, api.Due{At: script.Ticks(l[:i]), Task: a.N})
			}
		}
		if got := script.Asks(l); !slices.Equal(got, want) {
			t.Fatalf("%v: asks %v, not %v", l, got, want)
		}
		for _, at := range []int{0, 1, 2, 3, 4, 7, 8, -1, math.MinInt, api.Top, api.Top + 1, math.MaxInt} {
			if got := script.At(l, at); !slices.Equal(got, asked(l, at)) {
				t.Fatalf("%v: at %d %v", l, at, got)
			}
		}
	}
	// Behind the last tick, too; those of one time in their order.
	l := []act{ask(5), run(2), ask(3), run(0), ask(1), run(-4), ask(3), {Kind: 9, N: 4}, ask(0)}
	if got := script.At(l, 2); !slices.Equal(got, []int{3, 1, 3, 0}) {
		t.Error(got)
	}
	if got := script.At(l, 0); !slices.Equal(got, []int{5}) {
		t.Error(got)
	}
	if len(script.At(l, 1)) != 0 || len(script.At(nil, 0)) != 0 || len(script.Asks(nil)) != 0 {
		t.Error("nothing is asked for")
	}
}

// actOf is the act whose line a text is, word by word.
func actOf(s string) (act, bool) {
	kinds := map[string]int{"run": api.ActRun, "ask": api.ActAsk}
	most := map[string]int{"run": 65536, "ask": 7}
	words := strings.Split(s, " ")
	if len(words) != 2 || kinds[words[0]] == 0 || words[1] == "" || len(words[1]) > 5 || words[1][0] == '0' && words[1] != "0" {
		return act{}, false
	}
	n := 0
	for _, digit := range []byte(words[1]) {
		if digit < '0' || digit > '9' {
			return act{}, false
		}
		n = 10*n + int(digit-'0')
	}
	return act{Kind: kinds[words[0]], N: n}, n <= most[words[0]]
}

// plainly is what P42.3 says of a text, word by word.
func plainly(s string) ([]act, int, api.Errno) {
	if len(s) > 65536 {
		return nil, 0, api.ErrRoom
	}
	lines := strings.SplitAfter(s, "\n")
	ticks := 0
	var l []act
	for i, line := range lines[:len(lines)-1] {
		a, ok := actOf(strings.TrimSuffix(line, "\n"))
		if !ok {
			return nil, i + 1, api.ErrForm
		}
		if a.Kind == api.ActRun {
			ticks += a.N
		}
		l = append(l, a)
	}
	if lines[len(lines)-1] != "" {
		return nil, len(lines), api.ErrEnd
	}
	if len(l) > 1000 || ticks > 65536 {
		return nil, 0, api.ErrRange
	}
	return l, 0, api.OK
}

// check holds Parse against the chapter's words, and Print against Parse; it tells the error.
func check(t *testing.T, s string) api.Errno {
	t.Helper()
	want, wantAt, wantE := plainly(s)
	l, at, e := script.Parse(s)
	if !slices.Equal(l, want) || at != wantAt || e != wantE {
		t.Fatalf("%.60q (%d bytes): %.5v, %d, %d, not %.5v, %d, %d", s, len(s), l, at, e, want, wantAt, wantE)
	}
	if e == api.OK {
		if again, ok := script.Print(l); !ok || again != s {
			t.Fatalf("%.60q: printed %.60q", s, again)
		}
	}
	return e
}

// P42.3: texts that are wrong, and which of two errors is told.
func TestParse(t *testing.T) {
	full := strings.Repeat("ask 0\n", 10922) // 65532 bytes
	for _, c := range []struct {
		s  string
		at int
		e  api.Errno
	}{
		{"", 0, api.OK}, {"run 0\n", 0, api.OK}, {"run 65536\nask 7\n", 0, api.OK},
		{"\n", 1, api.ErrForm}, {"run\n", 1, api.ErrForm}, {"run \n", 1, api.ErrForm}, {"run 1 \n", 1, api.ErrForm}, {" run 1\n", 1, api.ErrForm}, {"run  1\n", 1, api.ErrForm},
		{"run 01\n", 1, api.ErrForm}, {"run 00\n", 1, api.ErrForm}, {"run -0\n", 1, api.ErrForm}, {"run +1\n", 1, api.ErrForm}, {"run -1\n", 1, api.ErrForm}, {"run 1_0\n", 1, api.ErrForm}, {"run 0x1\n", 1, api.ErrForm},
		{"run 65537\n", 1, api.ErrForm}, {"ask 8\n", 1, api.ErrForm}, {"ask 18446744073709551616\n", 1, api.ErrForm}, {"run 1\r\n", 1, api.ErrForm}, {"Run 1\n", 1, api.ErrForm}, {"go 1\n", 1, api.ErrForm}, {"run 1 1\n", 1, api.ErrForm},
		{" 1\n", 1, api.ErrForm}, {"1\n", 1, api.ErrForm}, {"runask 1\n", 1, api.ErrForm},
		{"run 1", 1, api.ErrEnd}, {"x", 1, api.ErrEnd}, {" ", 1, api.ErrEnd}, {"run 1\nask 1", 2, api.ErrEnd}, {"run 1\nx", 2, api.ErrEnd}, {"run 1\nask 9", 2, api.ErrEnd},
		{"x\nrun 1", 1, api.ErrForm}, {"run 1\nx\ny\nrun 1", 2, api.ErrForm}, {"run 1\n\nrun 1\n", 2, api.ErrForm}, {"run 1\n\n", 2, api.ErrForm},
		{"run 65536\nrun 1\n", 0, api.ErrRange}, {"run 65536\nrun 1\nx\n", 3, api.ErrForm}, {"run 65536\nrun 1\nrun 1", 3, api.ErrEnd},
		{strings.Repeat("ask 1\n", 1000), 0, api.OK}, {strings.Repeat("ask 1\n", 1001), 0, api.ErrRange}, {strings.Repeat("run 0\n", 1001), 0, api.ErrRange},
		{strings.Repeat("ask 1\n", 1001) + "ask 8\n", 1002, api.ErrForm}, {strings.Repeat("ask 1\n", 1001) + "ask", 1002, api.ErrEnd},
		{full, 0, api.ErrRange}, {full + "x\n", 10923, api.ErrForm}, {full + "xxxx", 10923, api.ErrEnd}, {full + "xxxxx", 0, api.ErrRoom}, {full + "ask 0\n", 0, api.ErrRoom},
		{strings.Repeat("x", 65536), 1, api.ErrEnd}, {strings.Repeat("x", 65537), 0, api.ErrRoom}, {strings.Repeat("\n", 65536), 1, api.ErrForm}, {strings.Repeat("\n", 65537), 0, api.ErrRoom},
		{"run " + strings.Repeat("1", 65000) + "\n", 1, api.ErrForm}, {"run " + strings.Repeat("0", 65000) + "\n", 1, api.ErrForm},
	} {
		if l, at, e := script.Parse(c.s); at != c.at || e != c.e || e != api.OK && len(l) != 0 {
			t.Errorf("%.40q: %.5v, %d, %d, not %d, %d", c.s, l, at, e, c.at, c.e)
		}
		check(t, c.s)
	}
}

// P42.3, P42.4: each right act has its line.
func TestAllActs(t *testing.T) {
	for n := range api.MaxTicks + 2 {
		for kind, word := range map[int]string{api.ActRun: "run ", api.ActAsk: "ask "} {
			a := act{Kind: kind, N: n}
			want := word + strconv.Itoa(n) + "\n"
			if script.Right([]act{a}) {
				if s, ok := script.Print([]act{a}); s != want || !ok {
					t.Fatalf("%v: %q, %t", a, s, ok)
				}
			}
			check(t, want)
		}
	}
}

// near goes through all texts that come of one by a byte more, less, or otherwise.
func near(s string, yield func(string)) {
	for at := range len(s) + 1 {
		for _, b := range []byte(" \n0123456789runaskRA-+_\t\r\x00\xff") {
			yield(s[:at] + string([]byte{b}) + s[at:])
			if at < len(s) {
				yield(s[:at] + string([]byte{b}) + s[at+1:])
			}
		}
		if at < len(s) {
			yield(s[:at] + s[at+1:])
			yield(s[:at])
		}
	}
}

// P42.3, P42.4: all texts that come of one by a byte or two, and rows of lines of all sorts.
func TestNearTexts(t *testing.T) {
	met := map[api.Errno]int{}
	for _, text := range []string{"run 65536\nask 7\nrun 0\n", "ask 0\nrun 3000\nrun 62536\n"} {
		near(text, func(s string) { met[check(t, s)]++ })
	}
	for _, text := range []string{"ask 1\n", "run 10\n"} {
		near(text, func(s string) { near(s, func(s string) { met[check(t, s)]++ }) })
	}
	r := rand.New(rand.NewPCG(42, 3))
	lines := []string{"run 1\n", "ask 7\n", "run 40000\n", "run 0\n", "run 20000\n", "\n", "ask 8\n", "x\n", "run 1", "ask"}
	for range 20000 {
		text := ""
		for range r.IntN(8) {
			text += lines[min(r.IntN(len(lines)), r.IntN(len(lines)))]
		}
		met[check(t, text)]++
	}
	for _, e := range []api.Errno{api.OK, api.ErrForm, api.ErrEnd, api.ErrRange} {
		if met[e] < 100 {
			t.Error(met)
		}
	}
}

// P42.1: what is handed in is not changed, what is told shares nothing.
func TestApart(t *testing.T) {
	l := []act{run(1), ask(1), ask(2), run(3)}
	was := slices.Clone(l)
	asks, at := script.Asks(l), script.At(l, 1)
	script.Print(l)
	script.Right(l)
	parsed, _, _ := script.Parse("run 1\nask 1\n")
	clear(asks[:cap(asks)])
	clear(at[:cap(at)])
	clear(parsed[:cap(parsed)])
	again, _, _ := script.Parse("run 1\nask 1\n")
	if !slices.Equal(l, was) || len(script.Asks(l)) != 2 || !slices.Equal(script.At(l, 1), []int{1, 2}) || !slices.Equal(again, []act{run(1), ask(1)}) {
		t.Error(l, again)
	}
}
