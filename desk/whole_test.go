package desk_test

import (
	"math/rand/v2"
	"slices"
	"strconv"
	"strings"
	"testing"

	"coxswain/admit"
	"coxswain/api"
	"coxswain/desk"
	"coxswain/exec"
	"coxswain/image"
	"coxswain/script"
	"coxswain/source"
	"coxswain/system"
)

// Tasks of the examples of the whole: of two steps; one that reads; one that goes ahead of it, and writes 9 once, or twice; one that puts twice, and one that takes twice.
const (
	steps = "task periodic 0 9 0 9 1\nnop\ndone\nend\n"
	reads = "task periodic 0 90 0 90 1\nread r1 o0 0\ndone\nend\n"
	once  = "task sporadic 1 40 0 40 1\nset r1 9\nstore r1 r0 0\nwrite r2 o0 0\ndone\nend\n"
	twice = "task sporadic 1 40 0 40 1\nset r1 9\nstore r1 r0 0\nwrite r2 o0 0\nwrite r2 o0 0\ndone\nend\n"
	puts  = "task periodic 0 90 0 90 1\nset r1 7\nstore r1 r0 0\nput r1 o0 0\nput r2 o0 0\ndone\nend\n"
	takes = "task sporadic 0 40 0 40 2\ntake r1 o0 0\ntake r2 o0 1\ndone\nend\n"
)

// The second to the tenth one of DOC.md's examples of the whole, told by the desk.
func TestExamples(t *testing.T) {
	for name, c := range map[string]struct{ sys, acts, asks, want string }{
		"two steps":       {steps, "run 9\n", "admit\njobs\nworst\n", "verdict 0 -1 -1\nresponse 0 2\njob 0 0 0 9 0 2 2\nworst 0 2\n"},
		"a deadline of 1": {strings.Replace(steps, "9 1\n", "1 1\n", 1), "run 2\n", "admit\nevents\n", "verdict 13 0 -1\n0 release 0 0 0\n0 step 0 0 0\n1 miss 0 0 0\n1 step 0 0 1\n1 done 0 0 2\n"},
		"who goes ahead":  {steps + strings.Replace(steps, "periodic 0", "periodic 1", 1), "run 9\n", "jobs\n", "job 0 0 0 9 2 4 2\njob 1 0 0 9 0 2 2\n"},
		"a failed attempt": {reads + once + "object seq 1 0 2 0 1 readers 0 init 5\n", "run 2\nask 1\nrun 20\n", "calls\nadmit\n",
			"0 0 read 0 12 good 9\n1 0 write 4 7 good 9\nverdict 0 -1 -1\nresponse 0 14\nresponse 1 7\n"},
		"a reader ahead": {strings.Replace(reads, "periodic 0", "periodic 2", 1) + once + "object seq 1 0 2 0 1 readers 0 init 5\n", "", "admit\n", "verdict 12 0 0\n"},
		"a ring of 2":    {reads + twice + "object ring 1 2 1 0 1 readers 0 init 5\n", "run 1\nask 1\nrun 30\n", "calls\nadmit\nsizes\n", "0 0 read 0 11 retry\n1 0 write 3 5 good 9\n1 0 write 6 8 good 9\nverdict 11 0 0\nsize 0 2 1\n"},
		"a ring of 4":    {reads + twice + "object ring 1 4 1 0 1 readers 0 init 5\n", "run 1\nask 1\nrun 30\n", "calls\nadmit\nsizes\n", "0 0 read 0 11 good 5\n1 0 write 3 5 good 9\n1 0 write 6 8 good 9\nverdict 0 -1 -1\nresponse 0 13\nresponse 1 9\nsize 0 4 1\n"},
		"a queue": {puts + takes + "object fifo 1 1 0 0 0 readers 1 init\n", "run 20\nask 1\nrun 20\n", "calls\ncheck\n",
			"0 0 put 2 5 good 7\n0 0 put 6 7 full 7\n1 0 take 20 23 good 7\n1 0 take 24 25 empty\ncheck 0\n"},
		"a separation": {"task sporadic 1 5 0 5 1\ndone\nend\n", "ask 0\nrun 3\nask 0\nrun 2\nask 0\nrun 1\n", "events\n",
			"0 release 0 0 0\n0 step 0 0 0\n0 done 0 0 1\n1 idle - 0 0\n2 idle - 0 0\n3 refuse 0 0 0\n3 idle - 0 0\n4 idle - 0 0\n5 release 0 1 0\n5 step 0 1 0\n5 done 0 1 1\n"},
		"a counter that wraps": {reads + once + "object seq 1 0 2 4294967294 1 readers 0 init 5\n", "run 2\nask 1\nrun 20\n", "calls\n", "0 0 read 0 12 good 9\n1 0 write 4 7 good 9\n"},
	} {
		want := strings.Split(strings.TrimSuffix(c.want, "\n"), "\n")
		serves(t, name, c.sys+"script\n"+c.acts+"tell\n"+c.asks, want, 0, api.OK)
	}
}

// some picks one of the items.
func some[T any](r *rand.Rand, l ...T) T { return l[r.IntN(len(l))] }

// kinds are objects of all kinds, with what their writers and readers do: W writes, R reads.
var kinds = [][3]string{
	{"four 1 0 0 0 W readers R init 5", "write", "read"}, {"chen 1 0 0 0 W readers R init 5", "write", "read"}, {"seq 1 0 1 4294967294 W readers R init 5", "write", "read"}, {"seq 1 0 4 0 W readers R init 5", "write", "read"},
	{"ring 1 2 1 2097151 W readers R init 5", "write", "read"}, {"cab 1 3 2 0 W readers R init 5", "write", "read"}, {"fifo 1 1 0 1 W readers R init", "put", "take"},
}

// crowd is a system that may be, of tasks of which two share an object.
func crowd(r *rand.Rand) string {
	code := make([]string, 2+r.IntN(3))
	for i := range code {
		code[i] = "load r1 r0 0\nset r2 1\nadd r1 r1 r2\nstore r1 r0 0\n" + strings.Repeat("nop\n", r.IntN(3))
	}
	users, o := r.Perm(len(code)), some(r, kinds...)
	code[users[0]] += o[1] + " r3 o0 0\n"
	code[users[1]] += strings.Repeat(o[2]+" r3 o0 1\n", 1+r.IntN(2))
	text, easy := "", 1+r.IntN(5)
	for _, l := range code {
		period := strconv.Itoa(easy * some(r, 9, 13, 20, 60))
		text += "task " + some(r, "periodic", "sporadic") + " " + strconv.Itoa(r.IntN(4)) + " " + period + " 0 " + period + " 2\n" + l + "done\nend\n"
	}
	return text + "object " + strings.NewReplacer("W", strconv.Itoa(users[0]), "R", strconv.Itoa(users[1])).Replace(o[0]) + "\n"
}

// asking is a script of some ticks.
func asking(r *rand.Rand) string {
	text := ""
	for range r.IntN(30) {
		text += some(r, "ask "+strconv.Itoa(r.IntN(5)), "run "+strconv.Itoa(r.IntN(12))) + "\n"
	}
	return text
}

// P48.3, P48.4, P7: whatever is run, the desk tells of its text what exec tells of its image; and all is as it must be.
func TestTextsAndImages(t *testing.T) {
	r := rand.New(rand.NewPCG(48, 7))
	met := map[string]int{}
	admitted := 0
	for range 500 {
		text, acting := crowd(r), asking(r)
		acts, _, e := script.Parse(acting)
		b, ok := image.Encode(sys(t, text))
		if e != api.OK || !ok {
			t.Fatal(acting, e)
		}
		x := exec.Run(b, acts, true)
		if x.E != api.OK {
			t.Fatalf("%s: %d", text, x.E)
		}
		var want []string
		asks := ""
		for _, i := range r.Perm(len(asked)) {
			l := desk.Answer(sys(t, text), x, acts, asked[i])
			asks, want = asks+asked[i]+"\n", append(want, l...)
			met[asked[i]] += len(l)
		}
		serves(t, text, text+"script\n"+acting+"tell\n"+asks, want, 0, api.OK)
		if !slices.Contains(want, "check 0") {
			t.Fatalf("%s, %s: %q", text, acting, want)
		}
		if slices.Contains(want, "verdict 0 -1 -1") {
			admitted++
		}
	}
	if admitted < 100 || admitted > 400 {
		t.Error(admitted)
	}
	for _, ask := range asked {
		if met[ask] < 500 {
			t.Error(met)
		}
	}
}

// serving is what Serve promises, of a text's parts.
func serving(s string) ([]string, int, api.Errno) {
	p := splitting(s)
	if !p.ok || len(s) > api.MaxBytes {
		return nil, 0, api.ErrForm
	}
	parsed, line, e := source.Parse(p.sys)
	if e != api.OK {
		return nil, line, e
	}
	acts, line, e := script.Parse(p.acts)
	if line > 0 {
		return nil, strings.Count(p.sys, "\n") + 1 + line, e
	}
	if e != api.OK {
		return nil, 0, e
	}
	if _, e := system.Check(parsed); e != api.OK {
		return nil, 0, e
	}
	x := exec.Go(parsed, acts)
	x.Verdict = admit.Check(parsed)
	var l []string
	for _, ask := range p.asks {
		l = append(l, desk.Answer(parsed, x, acts, ask)...)
	}
	return l, 0, api.OK
}

// spoilt is a text of which something is otherwise.
func spoilt(r *rand.Rand, text string) string {
	for range 1 + r.IntN(2) {
		l := strings.SplitAfter(text, "\n")
		i, k := r.IntN(len(l)), r.IntN(len(l))
		at := r.IntN(len(text))
		switch r.IntN(8) {
		case 0:
			l = slices.Delete(l, i, i+1)
		case 1:
			l = slices.Insert(l, i, l[k])
		case 2:
			l[i], l[k] = l[k], l[i]
		case 3:
			l[i] = some(r, "script\n", "tell\n", "end\n", "\n", "run 3\n", "ask 9\n", "jobs\n", "run 65536\n")
		case 4:
			l = []string{text[:at]}
		case 5:
			l = []string{text[:at], text[at+1:]}
		default:
			l = []string{text[:at], some(r, "0", "1", "9", " ", "\n", "x", "-", "\xff"), text[at+1:]}
		}
		text = strings.Join(l, "") + some(r, "", "", "", "\n")
		if text == "" {
			return "\n"
		}
	}
	return text
}

// P48.1, P48.2, P48.3, P1: whatever a text is, there is an error, and where, or there are the answers; time and again the same.
func TestAnyText(t *testing.T) {
	r := rand.New(rand.NewPCG(48, 9))
	met := map[api.Errno]int{}
	for range 6000 {
		text := spoilt(r, crowd(r)+"script\n"+asking(r)+"tell\nadmit\njobs\ncheck\nsizes\ncalls\nworst\nx\njobs\n")
		if p, want := split(text), splitting(text); !same(p, want) {
			t.Fatalf("%q: %+v, not %+v", text, p, want)
		}
		want, at, e := serving(text)
		met[e]++
		for range 2 {
			l, where, told := desk.Serve(text)
			if !slices.Equal(l, want) || where != at || told != e {
				t.Fatalf("%q: %q, %d, %d, not %q, %d, %d", text, l, where, told, want, at, e)
			}
			clear(l)
		}
	}
	for e, least := range map[api.Errno]int{api.OK: 500, api.ErrForm: 500, api.ErrEnd: 20, api.ErrArg: 5, api.ErrRange: 5, api.ErrFlow: 20, api.ErrCall: 5, api.ErrBind: 5} {
		if met[e] < least {
			t.Error(met)
		}
	}
}
