package desk_test

import (
	"math/rand/v2"
	"regexp"
	"slices"
	"strconv"
	"strings"
	"testing"

	"coxswain/api"
	"coxswain/desk"
)

// The system of which most texts here are: task 0 writes the object, 1 reads it.
const (
	writer = "task periodic 9 20 0 20 2\nset r1 5\nstore r1 r0 0\nwrite r0 o0 0\ndone\nend\n"
	reader = "task sporadic 1 50 0 50 2\nread r0 o0 1\ndone\nend\n"
	shared = "object seq 1 0 3 0 0 readers 1 init 7\n"
	both   = writer + reader + shared
	acts   = "run 18\nask 1\nrun 14\n"
)

// parts is what Split tells.
type parts struct {
	sys, acts string
	asks      []string
	at        int
	ok        bool
}

// split is what Split tells of a text.
func split(s string) parts {
	var p parts
	p.sys, p.acts, p.asks, p.at, p.ok = desk.Split(s)
	return p
}

// same tells whether parts are the same.
func same(a, b parts) bool {
	return a.sys == b.sys && a.acts == b.acts && slices.Equal(a.asks, b.asks) && a.at == b.at && a.ok == b.ok
}

// P48.2: a text's parts, each of them also empty, and lines script and tell where they are none.
func TestSplit(t *testing.T) {
	for text, want := range map[string]parts{
		"script\ntell\n":                                 {at: 1, ok: true},
		"a\nscript\nb\ntell\nc\n":                        {"a\n", "b\n", []string{"c"}, 2, true},
		"a\n\nb\nscript\nc\n\ntell\nd\n\ne f\n":          {"a\n\nb\n", "c\n\n", []string{"d", "", "e f"}, 4, true},
		"\n\nscript\n\ntell\n\n":                         {"\n\n", "\n", []string{""}, 3, true},
		"script\nscript\ntell\ntell\n":                   {"", "script\n", []string{"tell"}, 1, true},
		"a\nscript\ntell\nscript\ntell\n":                {"a\n", "", []string{"script", "tell"}, 2, true},
		"tell\nscript\nx\ntell\ny\n":                     {"tell\n", "x\n", []string{"y"}, 2, true},
		"script \n script\nscript\ntell \n tell\ntell\n": {"script \n script\n", "tell \n tell\n", nil, 3, true},
		"script\r\nscript\ntell\r\ntell\nadmit\r\n":      {"script\r\n", "tell\r\n", []string{"admit\r"}, 2, true},
		"Script\nscripts\n\nscript\nTELL\ntel\ntell\n":   {"Script\nscripts\n\n", "TELL\ntel\n", nil, 4, true},
		"scripttell\nscript\ntellscript\ntell\n":         {"scripttell\n", "tellscript\n", nil, 2, true},
		"\xff\x00\nscript\n\u2028\ntell\n\x80\n":         {"\xff\x00\n", "\u2028\n", []string{"\x80"}, 2, true},
		both + "script\n" + acts + "tell\nadmit\njobs\n": {both, acts, []string{"admit", "jobs"}, 12, true},
	} {
		if p := split(text); !same(p, want) {
			t.Errorf("%q: %+v", text, p)
		}
	}
}

// P48.2: nothing, if a line is not there, or has no line feed.
func TestNoSplit(t *testing.T) {
	for _, text := range []string{
		"", "\n", "script", "tell", "script\n", "tell\n", "script\ntell", "script\n\ntell", "a\nscript\nb\n", "a\ntell\nb\n", "tell\nscript\n", "tell\nscript\nadmit\n",
		"script\ntell\nadmit", "script\ntell\nadmit\njobs", "script\ntell\n ", "script\ntell\n\r", "script\rtell\r", "script\r\ntell\r\n", "scripttell\n", "script tell\n", "\nscript\n tell\n",
		both + "script\n" + acts, both + "tell\n" + acts, both + "script\n" + acts + "tell", both, acts,
	} {
		if p := split(text); !same(p, parts{}) {
			t.Errorf("%q: %+v", text, p)
		}
		if l, at, e := desk.Serve(text); len(l) > 0 || at != 0 || e != api.ErrForm {
			t.Errorf("%q: %q, %d, %d", text, l, at, e)
		}
	}
}

// P48.2: as many bytes as may be, and one more.
func TestBytes(t *testing.T) {
	for name, of := range map[string]func(n int) (string, parts){
		"the first part": func(n int) (string, parts) {
			s := strings.Repeat("x", n-13) + "\n"
			return s + "script\ntell\n", parts{s, "", nil, 2, true}
		},
		"many lines": func(n int) (string, parts) {
			s := strings.Repeat("\n", n-12)
			return s + "script\ntell\n", parts{s, "", nil, n - 11, true}
		},
		"the second part": func(n int) (string, parts) {
			s := strings.Repeat("y", n-13) + "\n"
			return "script\n" + s + "tell\n", parts{"", s, nil, 1, true}
		},
		"a question": func(n int) (string, parts) {
			s := strings.Repeat("z", n-13)
			return "script\ntell\n" + s + "\n", parts{"", "", []string{s}, 1, true}
		},
		"many questions": func(n int) (string, parts) {
			return "script\ntell\n" + strings.Repeat("\n", n-12), parts{"", "", make([]string, n-12), 1, true}
		},
	} {
		for _, n := range []int{api.MaxBytes - 1, api.MaxBytes} {
			if text, want := of(n); len(text) != n || !same(split(text), want) {
				t.Errorf("%s, %d: not so", name, n)
			}
		}
		for _, n := range []int{api.MaxBytes + 1, 2 * api.MaxBytes} {
			if text, _ := of(n); !same(split(text), parts{}) {
				t.Errorf("%s, %d: so", name, n)
			}
		}
	}
	if !same(split(strings.Repeat("script\ntell\n", 1<<20)), parts{}) {
		t.Error("a long one")
	}
}

// form is a desk's text.
var form = regexp.MustCompile(`\A((?:[^\n]*\n)*?)script\n((?:[^\n]*\n)*?)tell\n((?:[^\n]*\n)*)\z`)

// splitting is what Split promises, by the form of a text.
func splitting(s string) parts {
	m := form.FindStringSubmatch(s)
	if m == nil {
		return parts{}
	}
	asks := strings.Split(m[3], "\n")
	return parts{m[1], m[2], asks[:len(asks)-1], strings.Count(m[1], "\n") + 1, true}
}

// P48.2: all texts of few pieces.
func TestAllTexts(t *testing.T) {
	pieces := []string{"script\n", "tell\n", "\n", "x", "script", "tell"}
	seen := 0
	var from func(s string, more int)
	from = func(s string, more int) {
		want := splitting(s)
		if got := split(s); !same(got, want) {
			t.Fatalf("%q: %+v, not %+v", s, got, want)
		}
		if want.ok {
			seen++
		}
		for _, p := range pieces {
			if more > 0 {
				from(s+p, more-1)
			}
		}
	}
	from("", 6)
	if seen < 4000 {
		t.Error(seen)
	}
}

// serves fails if Serve tells something else of a text.
func serves(t *testing.T, name, text string, want []string, at int, e api.Errno) {
	t.Helper()
	l, where, told := desk.Serve(text)
	if !slices.Equal(l, want) || where != at || told != e {
		t.Errorf("%s: %q, %d, %d", name, l, where, told)
	}
}

// P48.3: the first error, and where.
func TestErrors(t *testing.T) {
	const ask = "tell\nadmit\n"
	full := strings.Repeat("ask 0\n", api.MaxActs)
	for name, c := range map[string]struct {
		text string
		at   int
		e    api.Errno
	}{
		"not one text":                    {"nonsense\nscript\nnonsense\n", 0, api.ErrForm},
		"the system's first line":         {"nonsense\nscript\n" + ask, 1, api.ErrForm},
		"the system's last line":          {both + "task\nscript\n" + acts + ask, 12, api.ErrForm},
		"an instruction":                  {"task periodic 9 20 0 20 2\nset r8 5\ndone\nend\nscript\n" + ask, 2, api.ErrForm},
		"an open task":                    {writer + "task sporadic 1 50 0 50 2\ndone\nscript\n" + acts + ask, 8, api.ErrEnd},
		"script in an open task":          {"task sporadic 1 50 0 50 2\nscript\n" + acts + ask, 1, api.ErrEnd},
		"a task behind an object":         {shared + writer + "script\n" + ask, 2, api.ErrForm},
		"the system ahead of the script":  {"nonsense\nscript\nnonsense\n" + ask, 1, api.ErrForm},
		"tell in the system":              {both + "tell\nscript\n" + acts + ask, 12, api.ErrForm},
		"the script's first line":         {both + "script\nwalk 5\n" + acts + ask, 13, api.ErrForm},
		"the script's third line":         {both + "script\nrun 5\nask 0\nask 8\n" + ask, 15, api.ErrForm},
		"an empty line":                   {both + "script\nrun 5\n\n" + ask, 14, api.ErrForm},
		"script twice":                    {both + "script\nscript\n" + ask, 13, api.ErrForm},
		"too many ticks in one":           {both + "script\nrun 65537\n" + ask, 13, api.ErrForm},
		"too many ticks in two":           {both + "script\nrun 65536\nrun 1\n" + ask, 0, api.ErrRange},
		"too many acts":                   {both + "script\n" + full + "ask 0\n" + ask, 0, api.ErrRange},
		"the script ahead of the check":   {"script\nrun x\n" + ask, 2, api.ErrForm},
		"acts ahead of the check":         {"script\nrun 65536\nrun 1\n" + ask, 0, api.ErrRange},
		"no tasks":                        {"script\n" + ask, 0, api.ErrArg},
		"no tasks, and a run":             {shared + "script\n" + acts + ask, 0, api.ErrArg},
		"a task that may not be":          {"task periodic 256 20 0 20 2\ndone\nend\nscript\n" + ask, 0, api.ErrArg},
		"a program that is left":          {"task periodic 9 20 0 20 2\nnop\nend\nscript\n" + ask, 0, api.ErrFlow},
		"an object that is not right":     {writer + reader + "object seq 1 0 0 0 0 readers 1 init 7\nscript\n" + ask, 0, api.ErrForm},
		"a reader that is no task":        {writer + shared + "script\n" + ask, 0, api.ErrBind},
		"a call of what is not there":     {writer + "script\n" + ask, 0, api.ErrCall},
		"a record that has no room":       {strings.Replace(both, "read r0 o0 1", "read r0 o0 2", 1) + "script\n" + ask, 0, api.ErrRange},
		"a task behind objects":           {both + "task periodic 0 20 0 20 65\ndone\nend\nscript\n" + ask, 12, api.ErrForm},
		"no system, whatever is asked":    {"script\ntell\n", 0, api.ErrArg},
		"no script, whatever is asked":    {both + "script\nask\ntell\n", 13, api.ErrForm},
		"one byte too many":               {both + "script\ntell\n" + strings.Repeat("\n", api.MaxBytes-len(both)-11), 0, api.ErrForm},
		"one byte too many, and nonsense": {"nonsense\nscript\ntell\n" + strings.Repeat("\n", api.MaxBytes-20), 0, api.ErrForm},
	} {
		serves(t, name, c.text, nil, c.at, c.e)
	}
	if _, at, e := desk.Serve(both + "script\n" + full + ask); at != 0 || e != api.OK {
		t.Error(at, e)
	}
}

// P48.3: each line of a system and of a script, made wrong.
func TestWrongLines(t *testing.T) {
	text := both + "script\n" + acts + "tell\njobs\n"
	l := slices.Collect(strings.Lines(text))
	for i, line := range l {
		if line == "script\n" || line == "tell\n" {
			continue
		}
		wrong := slices.Clone(l)
		wrong[i] = "what's that\n"
		at, e := i+1, api.ErrForm
		if i == len(l)-1 {
			at, e = 0, api.OK
		}
		if _, where, told := desk.Serve(strings.Join(wrong, "")); where != at || told != e {
			t.Errorf("line %d: %d, %d", i+1, where, told)
		}
	}
}

// P48.3: the chapter's example, and no questions.
func TestServe(t *testing.T) {
	const short = "task sporadic 1 9 0 9 1\ndone\nend\nscript\nask 0\nrun 2\ntell\n"
	serves(t, "the example", short+"jobs\n", []string{"job 0 0 0 9 0 1 1"}, 0, api.OK)
	serves(t, "no questions", short, nil, 0, api.OK)
	serves(t, "an empty question", short+"\n", []string{"? "}, 0, api.OK)
	serves(t, "no answers", strings.Replace(short, "ask 0\n", "", 1)+"jobs\ncalls\n", nil, 0, api.OK)
	serves(t, "one behind the other", short+"worst\nwhat\njobs\nevents\nworst\nadmit\n",
		[]string{"worst 0 1", "? what", "job 0 0 0 9 0 1 1", "0 release 0 0 0", "0 step 0 0 0", "0 done 0 0 1", "1 idle - 0 0", "worst 0 1", "verdict 0 -1 -1", "response 0 1"}, 0, api.OK)
	serves(t, "often", short+strings.Repeat("jobs\nx\n", 9), slices.Repeat([]string{"job 0 0 0 9 0 1 1", "? x"}, 9), 0, api.OK)
	serves(t, "script and tell asked", short+"script\ntell\nask 0\n", []string{"? script", "? tell", "? ask 0"}, 0, api.OK)
}

// whole is the answers to all questions, of the system above, and its acts.
var whole = map[string][]string{
	"admit": {"verdict 0 -1 -1", "response 0 7", "response 1 14"},
	"events": slices.Concat(
		[]string{"0 release 0 0 0", "0 step 0 0 0", "1 step 0 0 1", "2 call 0 0 2", "2 step 0 0 2", "3 step 0 0 2", "4 step 0 0 2", "5 back 0 0 0", "5 step 0 0 2", "6 step 0 0 3", "6 done 0 0 7"}, idles(7, 18),
		[]string{"18 release 1 0 0", "18 call 1 0 1", "18 step 1 0 0", "19 step 1 0 0"},
		[]string{"20 release 0 1 0", "20 step 0 1 0", "21 step 0 1 1", "22 call 0 0 2", "22 step 0 1 2", "23 step 0 1 2", "24 step 0 1 2", "25 back 0 0 0", "25 step 0 1 2", "26 step 0 1 3", "26 done 0 1 7"},
		[]string{"27 step 1 0 0", "28 step 1 0 0", "29 step 1 0 0", "30 back 1 0 0", "30 step 1 0 0", "31 step 1 0 1", "31 done 1 0 14"}),
	"calls": {"0 0 write 2 5 good 5", "1 0 read 18 30 good 5", "0 0 write 22 25 good 5"},
	"jobs":  {"job 0 0 0 20 0 7 7", "job 1 0 18 68 18 32 7", "job 0 1 20 40 20 27 7"},
	"check": {"check 0"},
	"sizes": {"size 0 0 2"},
	"worst": {"worst 0 7", "worst 1 14"},
	"what?": {"? what?"},
}

// idles is the lines of idle ticks, from one on and ahead of another one.
func idles(from, to int) []string {
	var l []string
	for t := from; t < to; t++ {
		l = append(l, strconv.Itoa(t)+" idle - 0 0")
	}
	return l
}

// P48.3: all questions, one by one, and in any order.
func TestQuestions(t *testing.T) {
	var asks []string
	for ask, want := range whole {
		serves(t, ask, both+"script\n"+acts+"tell\n"+ask+"\n", want, 0, api.OK)
		asks = append(asks, ask)
	}
	slices.Sort(asks)
	r := rand.New(rand.NewPCG(48, 3))
	for range 200 {
		text, want := both+"script\n"+acts+"tell\n", []string(nil)
		for range r.IntN(12) {
			ask := asks[r.IntN(len(asks))]
			text, want = text+ask+"\n", append(want, whole[ask]...)
		}
		serves(t, text, text, want, 0, api.OK)
	}
}

// P48.3: what is refused is run, too, and its verdict told; what is late is told so.
func TestRefused(t *testing.T) {
	const late = "task periodic 0 9 0 1 1\nnop\ndone\nend\nscript\nrun 11\ntell\nadmit\njobs\nworst\ncheck\nsizes\n"
	serves(t, "late", late, []string{"verdict 13 0 -1", "job 0 0 0 1 0 2 2 late", "job 0 1 9 10 9 11 2 late", "worst 0 2", "check 0"}, 0, api.OK)
	ahead := strings.Replace(both, "sporadic 1", "sporadic 10", 1)
	serves(t, "hopeless", ahead+"script\nrun 3\nask 1\nrun 5\ntell\nadmit\nsizes\nworst\njobs\ncheck\n",
		[]string{"verdict 12 1 0", "size 0 0 1", "worst 0 -", "worst 1 4", "job 0 0 0 20 0 -1 4", "job 1 0 3 53 3 7 4", "check 0"}, 0, api.OK)
}

// P48.3: a text of as many bytes as may be, most of them questions that take a while.
func TestManyQuestions(t *testing.T) {
	text := both + "script\nrun 65536\ntell\n"
	n := (api.MaxBytes - len(text)) / len("check\n")
	serves(t, "check, time and again", text+strings.Repeat("check\n", n), slices.Repeat([]string{"check 0"}, n), 0, api.OK)
}
