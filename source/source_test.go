package source_test

import (
	"math"
	"math/rand/v2"
	"regexp"
	"slices"
	"strconv"
	"strings"
	"testing"

	"coxswain/api"
	"coxswain/asm"
	"coxswain/image"
	"coxswain/source"
	"coxswain/system"
)

// instr is an instruction.
type instr = api.Instr

// some is a system that has some of all.
func some() api.System {
	return api.System{
		Tasks: []api.Task{
			{Kind: api.Periodic, Prio: 3, Period: 20, Offset: 5, Deadline: 19, Own: 8, Code: []instr{{Op: api.Set, A: 1, N: 5}, {Op: api.Write, B: 2, N: 7}, {Op: api.Done}}},
			{Kind: api.Sporadic, Prio: 255, Period: 1 << 40, Deadline: 1<<40 - 1, Own: 64},
			{Kind: api.Periodic, Code: []instr{{Op: api.Done}}},
		},
		Objects: []api.Object{
			{Kind: api.Four, Width: 1, Writer: 1, Readers: []int{0}, Init: []uint32{9}},
			{Kind: api.Chen, Width: 1, Writer: 1, Readers: []int{0, 2}, Init: []uint32{9}},
			{Kind: api.Seq, Width: 2, Cap: 3, Start: 4294967294, Readers: []int{1}, Init: []uint32{0, 4294967295}},
			{Kind: api.Ring, Width: 2, Slots: 16, Cap: 3, Start: 7, Writer: 2, Readers: []int{1, 0}, Init: []uint32{10, 20}},
			{Kind: api.Cab, Slots: 1 << 40, Writer: 1 << 40, Readers: []int{1 << 40, 0}},
			{Kind: api.Fifo, Width: 2, Slots: 2, Start: 3, Writer: 1},
		},
	}
}

// someText is its text.
const someText = `task periodic 3 20 5 19 8
set r1 5
write r0 o2 7
done
end
task sporadic 255 1099511627776 0 1099511627775 64
end
task periodic 0 0 0 0 0
done
end
object four 1 0 0 0 1 readers 0 init 9
object chen 1 0 0 0 1 readers 0 2 init 9
object seq 2 0 3 4294967294 0 readers 1 init 0 4294967295
object ring 2 16 3 7 2 readers 1 0 init 10 20
object cab 0 1099511627776 0 0 1099511627776 readers 1099511627776 0 init
object fifo 2 2 0 3 1 readers init
`

// isText tells whether a system has this text, and the other way round.
func isText(s api.System, text string) bool {
	printed, ok := source.Print(s)
	parsed, at, e := source.Parse(text)
	return ok && printed == text && e == api.OK && at == 0 && system.Same(parsed, s)
}

// isWrong tells whether Parse tells this error, and nothing else.
func isWrong(text string, at int, e api.Errno) bool {
	s, where, told := source.Parse(text)
	return told == e && where == at && len(s.Tasks) == 0 && len(s.Objects) == 0
}

// hasNone tells whether a system has no text.
func hasNone(s api.System) bool {
	text, ok := source.Print(s)
	return text == "" && !ok
}

// P34.2, P34.3: the examples, and a system with some of all.
func TestTexts(t *testing.T) {
	if !isText(api.System{}, "") || !isText(api.System{Tasks: []api.Task{}, Objects: []api.Object{}}, "") {
		t.Error("a system without tasks and objects")
	}
	one := api.Task{Kind: api.Periodic, Prio: 3, Period: 20, Deadline: 20, Own: 8, Code: []instr{{Op: api.Done}}}
	if !isText(api.System{Tasks: []api.Task{one}}, "task periodic 3 20 0 20 8\ndone\nend\n") {
		t.Error("a task of one instruction")
	}
	if !isText(some(), someText) {
		text, ok := source.Print(some())
		t.Errorf("%s, %v", text, ok)
	}
	if !isText(api.System{Objects: some().Objects[5:]}, "object fifo 2 2 0 3 1 readers init\n") {
		t.Error("an object without tasks")
	}
}

// numbers are changes of each number of a system that may be from 0 to Top.
func numbers() map[string]func(*api.System, int) {
	return map[string]func(*api.System, int){
		"Prio": func(s *api.System, n int) { s.Tasks[0].Prio = n }, "Period": func(s *api.System, n int) { s.Tasks[1].Period = n },
		"Offset": func(s *api.System, n int) { s.Tasks[2].Offset = n }, "Deadline": func(s *api.System, n int) { s.Tasks[0].Deadline = n },
		"Own": func(s *api.System, n int) { s.Tasks[1].Own = n }, "Width": func(s *api.System, n int) { s.Objects[0].Width = n },
		"Slots": func(s *api.System, n int) { s.Objects[1].Slots = n }, "Cap": func(s *api.System, n int) { s.Objects[2].Cap = n },
		"Writer": func(s *api.System, n int) { s.Objects[5].Writer = n }, "first reader": func(s *api.System, n int) { s.Objects[3].Readers[0] = n },
		"last reader": func(s *api.System, n int) { s.Objects[4].Readers[1] = n },
	}
}

// P34.2: each number at its ends, and beyond.
func TestNumbers(t *testing.T) {
	for name, set := range numbers() {
		for _, n := range []int{0, 1, 9, 10, 255, 256, 1 << 32, api.Top - 1, api.Top} {
			s := some()
			set(&s, n)
			text, _ := source.Print(s)
			if !isText(s, text) || !strings.Contains(text, " "+strconv.Itoa(n)) {
				t.Errorf("%s %d", name, n)
			}
		}
		for _, n := range []int{-1, api.Top + 1, math.MinInt, math.MaxInt} {
			s := some()
			set(&s, n)
			if !hasNone(s) {
				t.Errorf("%s %d", name, n)
			}
		}
	}
}

// P34.2: kinds that have no word, and instructions that are not right.
func TestNoText(t *testing.T) {
	for _, n := range []int{0, 3, -1, math.MinInt, math.MaxInt} {
		for i := range 3 {
			s := some()
			s.Tasks[i].Kind = n
			if !hasNone(s) {
				t.Errorf("kind %d of task %d", n, i)
			}
		}
	}
	for _, n := range []int{0, 7, -1, math.MinInt, math.MaxInt} {
		for k := range 6 {
			s := some()
			s.Objects[k].Kind = n
			if !hasNone(s) {
				t.Errorf("kind %d of object %d", n, k)
			}
		}
	}
	for _, i := range []instr{{Op: 22}, {Op: -1}, {Op: api.Set, A: 8}, {Op: api.Nop, N: 1}, {Op: api.Jump, N: 64}, {Op: api.Back}} {
		for at := range 3 {
			s := some()
			s.Tasks[0].Code[at] = i
			if !hasNone(s) {
				t.Errorf("%v at %d", i, at)
			}
		}
	}
	s := some()
	s.Tasks[2].Code[0].A = 1
	if !hasNone(s) {
		t.Error("the last instruction of all")
	}
}

// nops is a system of a task that has so many words of its own, and so many times nop.
func nops(count, own int) api.System {
	return api.System{Tasks: []api.Task{{Kind: api.Periodic, Own: own, Code: make([]instr, count)}}}
}

// P34.2, P34.3: how long a text may be.
func TestRoom(t *testing.T) {
	const head = len("task periodic 0 0 0 0 1\n") + len("end\n")
	count := (api.MaxBytes - head) / 4
	for more, own := range []int{1, 11, 111, 1111} {
		s := nops(count, own)
		text := "task periodic 0 0 0 0 " + strconv.Itoa(own) + "\n" + strings.Repeat("nop\n", count) + "end\n"
		if len(text) != api.MaxBytes+more {
			t.Fatalf("a text of %d bytes", len(text))
		}
		if len(text) <= api.MaxBytes && !isText(s, text) {
			t.Errorf("a text of %d bytes", len(text))
		}
		if len(text) > api.MaxBytes && (!hasNone(s) || !isWrong(text, 0, api.ErrRoom)) {
			t.Errorf("a text of %d bytes", len(text))
		}
	}
	if !hasNone(nops(1<<20, 1)) || !hasNone(api.System{Tasks: slices.Repeat(some().Tasks[2:], 1<<18)}) || !hasNone(api.System{Objects: slices.Repeat(some().Objects[5:], 1<<18)}) {
		t.Error("very long texts")
	}
	long := api.Object{Kind: api.Seq, Readers: make([]int, 1<<22)}
	wide := api.Object{Kind: api.Seq, Init: make([]uint32, 1<<22)}
	if !hasNone(api.System{Objects: []api.Object{long}}) || !hasNone(api.System{Objects: []api.Object{wide}}) {
		t.Error("very long lines")
	}
	for _, c := range []struct {
		part  string
		count int
		at    int
		e     api.Errno
	}{
		{"x", api.MaxBytes, 1, api.ErrEnd}, {"x", api.MaxBytes + 1, 0, api.ErrRoom}, {"\n", api.MaxBytes, 1, api.ErrForm}, {"\n", api.MaxBytes + 1, 0, api.ErrRoom}, {"end\n", 1 << 20, 0, api.ErrRoom},
	} {
		if !isWrong(strings.Repeat(c.part, c.count), c.at, c.e) {
			t.Errorf("%d times %q", c.count, c.part)
		}
	}
}

// P34.2, P34.3: the lines of objects that fill a text.
func TestRoomOfObjects(t *testing.T) {
	const head = len("object seq 0 0 0 0 0 readers init\n")
	for more := range 4 {
		count := (api.MaxBytes - head) / 2
		// Each reader, and each word, has a blank and a digit; a last one has more digits.
		o := api.Object{Kind: api.Seq, Readers: make([]int, count-100), Init: make([]uint32, 100)}
		o.Init[99] = []uint32{0, 10, 100, 1000}[more]
		size := head + 2*count + more
		text := "object seq 0 0 0 0 0 readers" + strings.Repeat(" 0", count-100) + " init" + strings.Repeat(" 0", 99) + " " + strconv.Itoa(int(o.Init[99])) + "\n"
		s := api.System{Objects: []api.Object{o}}
		if len(text) != size || size <= api.MaxBytes && !isText(s, text) || size > api.MaxBytes && (!hasNone(s) || !isWrong(text, 0, api.ErrRoom)) {
			t.Errorf("a text of %d bytes", size)
		}
	}
}

// P34.3: an open task that reaches up to MaxBytes is a task that is open, though there is no room for its end.
func TestOpenUpToTheEnd(t *testing.T) {
	text := "task periodic 0 0 0 0 0\n"
	count := (api.MaxBytes - len(text)) / 4
	text += strings.Repeat("nop\n", count)
	if len(text) != api.MaxBytes || !isWrong(text, count+1, api.ErrEnd) {
		_, at, e := source.Parse(text)
		t.Errorf("%d bytes: %d, %d", len(text), at, e)
	}
}

// P34.3: which line it is, and what is wrong.
func TestErrors(t *testing.T) {
	const task, object = "task periodic 3 20 0 20 8\n", "object fifo 2 2 0 3 1 readers init\n"
	for _, c := range []struct {
		text string
		at   int
		e    api.Errno
	}{
		{"\n", 1, api.ErrForm}, {" ", 1, api.ErrEnd}, {"x", 1, api.ErrEnd}, {"x\n", 1, api.ErrForm}, {"task", 1, api.ErrEnd}, {"end\n", 1, api.ErrForm}, {"done\n", 1, api.ErrForm},
		{task, 1, api.ErrEnd}, {task + "done\n", 2, api.ErrEnd}, {task + "done", 2, api.ErrEnd}, {task + "end", 2, api.ErrEnd}, {task + "done\nend", 3, api.ErrEnd},
		{task + "\nend\n", 2, api.ErrForm}, {task + "done\nend\n\n", 4, api.ErrForm}, {task + "done\nend\n ", 4, api.ErrEnd}, {task + "end\nend\n", 3, api.ErrForm},
		{task + task, 2, api.ErrForm}, {task + object, 2, api.ErrForm}, {task + "end\n" + object + task, 4, api.ErrForm}, {task + "end\n" + object + task + "end\n", 4, api.ErrForm},
		{object + task + "end\n", 2, api.ErrForm}, {object + "end\n", 2, api.ErrForm}, {object + "done\n", 2, api.ErrForm}, {object + object[:9], 2, api.ErrEnd},
		{task + "end\n" + task, 3, api.ErrEnd}, {task + "end\n" + task + "nop\n", 4, api.ErrEnd}, {task + "end\n" + object + object[:len(object)-1], 4, api.ErrEnd},
		{"x\ny\n", 1, api.ErrForm}, {"x\ny", 1, api.ErrForm}, {task + "x\ny", 2, api.ErrForm}, {task + "nop\nx", 3, api.ErrEnd}, {task + "end \n", 2, api.ErrForm},
		{task + "end\n" + object + "x\n" + object, 4, api.ErrForm}, {strings.ReplaceAll(someText, "\n", "\r\n"), 1, api.ErrForm}, {"\n" + someText, 1, api.ErrForm},
		{someText + "\x00", 17, api.ErrEnd}, {someText + "\n", 17, api.ErrForm},
	} {
		if !isWrong(c.text, c.at, c.e) {
			_, at, e := source.Parse(c.text)
			t.Errorf("%q: %d, %d, not %d, %d", c.text, at, e, c.at, c.e)
		}
	}
	for _, text := range []string{task + "end\n", task + "nop\nend\n" + object, object, object + object, task + "end\n" + task + "end\n" + object} {
		if s, at, e := source.Parse(text); e != api.OK || at != 0 || len(s.Tasks) != strings.Count(text, "task") || len(s.Objects) != strings.Count(text, "object") {
			t.Errorf("%q: %d, %d", text, at, e)
		}
	}
}

// P34.3: lines that are no task's, and no object's.
func TestWrongLines(t *testing.T) {
	for _, line := range []string{
		"task", "task ", "task periodic", "task periodic 3 20 0 20", "task periodic 3 20 0 20 8 9", "task periodic 3 20 0 20 8 ", "task  periodic 3 20 0 20 8", " task periodic 3 20 0 20 8",
		"task aperiodic 3 20 0 20 8", "task Periodic 3 20 0 20 8", "task 1 3 20 0 20 8", "task  3 20 0 20 8", "Task periodic 3 20 0 20 8", "task\tperiodic 3 20 0 20 8",
		"task periodic 03 20 0 20 8", "task periodic 3 20 00 20 8", "task periodic +3 20 0 20 8", "task periodic -3 20 0 20 8", "task periodic 3 20 -0 20 8", "task periodic 3 2_0 0 20 8",
		"task periodic 3 0x20 0 20 8", "task periodic 3 20 0 20 1099511627777", "task periodic 3 20 0 20 9223372036854775808", "task periodic 3 20 0 20 18446744073709551624", "task periodic 3 20. 0 20 8",
		"task periodic 3 20  20 8", "task periodic 3 20 0 20 8\r", "task periodic ٣ 20 0 20 8",
		"object", "object ", "object fifo", "object fifo 2 2 0 3 1", "object fifo 2 2 0 3 1 readers", "object fifo 2 2 0 3 1 init", "object fifo 2 2 0 3 1 init readers", "object fifo 2 2 0 3 readers init",
		"object fifo 2 2 0 3 1 1 readers init", "object fifo 2 2 0 3 1 readers init ", "object fifo 2 2 0 3 1 readers  init", "object fifo 2 2 0 3 1  readers init", "object fifo 2 2 0 3 1 readersinit",
		"object fifo 2 2 0 3 1 readers 1init", "object fifo 2 2 0 3 1 readers1 init", "object fifo 2 2 0 3 1 readers init1", "object fifo 2 2 0 3 1 readers init init", "object fifo 2 2 0 3 1 readers readers init",
		"object fifo 2 2 0 3 1 readers init 1 init", "object fifo 2 2 0 3 1 readers init 4294967296", "object fifo 2 2 0 3 1 readers init 01", "object fifo 2 2 0 3 1 readers init -1", "object fifo 2 2 0 3 1 readers init 1  2",
		"object fifo 2 2 0 3 1 readers init 1 ", "object fifo 2 2 0 3 1 readers 1  2 init", "object fifo 2 2 0 3 1 readers 01 init", "object fifo 2 2 0 3 1 readers 1099511627777 init", "object fifo 2 2 0 3 1 readers -1 init",
		"object fifo 2 2 0 4294967296 1 readers init", "object fifo 2 2 0 1099511627776 1 readers init", "object fifo 2 2 0 03 1 readers init", "object fifo 1099511627777 2 0 3 1 readers init", "object queue 2 2 0 3 1 readers init",
		"object init", "object fifo init", "object fifo 2 init", "object fifo 2 2 0 init", "object fifo 2 2 0 3 init", "object fifo 2 2 0 3 1 init", "object fifo 2 2 0 3 1 readers 5", "object fifo 2 2 0 3 readers 1 init",
		"object  2 2 0 3 1 readers init", "object init 2 2 0 3 1 readers init", "object Fifo 2 2 0 3 1 readers init", "Object fifo 2 2 0 3 1 readers init", "object fifo 2 2 0 3 1 Readers init", "object fifo 2 2 0 3 1 readers Init",
		"object fifo 2 2 0 3 1 readers init 5\r", "object fifo 2 2 0 3 1 reader init", "object fifo 2 2 0 3 1 readers first", "objects fifo 2 2 0 3 1 readers init", "tasks", "nop", "done", "end", "END", "init", "readers", "init readers 0 0 0 0 readers init",
	} {
		if !isWrong(line+"\n", 1, api.ErrForm) || !isWrong("task periodic 3 20 0 20 8\nend\n"+line+"\n"+line, 3, api.ErrForm) {
			t.Errorf("%q", line)
		}
	}
}

// shape is the form of a system's text, but for how great its numbers are, and its instructions.
var shape = regexp.MustCompile(`^(task (periodic|sporadic)( (0|[1-9][0-9]*)){5}\n([a-df-z][^\n]*\n|e[^n\n][^\n]*\n)*end\n)*(object (four|chen|seq|ring|cab|fifo)( (0|[1-9][0-9]*)){5} readers( (0|[1-9][0-9]*))* init( (0|[1-9][0-9]*))*\n)*$`)

// fits tells whether a number in digits is from 0 to most.
func fits(digits string, most uint64) bool {
	n, err := strconv.ParseUint(digits, 10, 64)
	return err == nil && n <= most
}

// isSystemText tells whether a text is a system's, by the form of its lines.
func isSystemText(s string) bool {
	if !shape.MatchString(s) {
		return false
	}
	open := false
	for line := range strings.Lines(s) {
		line = strings.TrimSuffix(line, "\n")
		words := strings.Split(line, " ")
		switch {
		case open && line == "end":
			open = false
		case open:
			if _, ok := asm.Read(line); !ok {
				return false
			}
		default:
			open = words[0] == "task"
			first := slices.Index(words, "init")
			for i, w := range words {
				most := uint64(api.Top)
				if words[0] == "object" && (i == 5 || i > first) {
					most = math.MaxUint32
				}
				if w[0] >= '0' && w[0] <= '9' && !fits(w, most) {
					return false
				}
			}
		}
	}
	return true
}

// whatIsWrong is what Parse must tell of a text, by the chapter's words.
func whatIsWrong(s string) (int, api.Errno) {
	ahead, open, count := "", false, 0
	for line := range strings.Lines(s) {
		count++
		if !strings.HasSuffix(line, "\n") {
			return count, api.ErrEnd
		}
		ahead += line
		whole := isSystemText(ahead)
		if !whole && !isSystemText(ahead+"end\n") {
			return count, api.ErrForm
		}
		open = !whole
	}
	if open {
		return count, api.ErrEnd
	}
	return 0, api.OK
}

// near goes through all texts that come of one by a byte more, less, or otherwise.
func near(s string, yield func(string)) {
	for at := range len(s) + 1 {
		for _, b := range []byte(" \n019reinxtask-+\x00\xff") {
			yield(s[:at] + string([]byte{b}) + s[at:])
			if at < len(s) {
				yield(s[:at] + string([]byte{b}) + s[at+1:])
			}
		}
		if at < len(s) {
			yield(s[:at] + s[at+1:])
			yield(s[:at])
		}
	}
}

// check holds Parse of a text against the chapter's words, and Print against Parse; it tells whether there is a system.
func check(t *testing.T, text string) bool {
	t.Helper()
	at, e := whatIsWrong(text)
	if e != api.OK {
		if !isWrong(text, at, e) {
			_, where, told := source.Parse(text)
			t.Fatalf("%q: %d, %d, not %d, %d", text, where, told, at, e)
		}
		return false
	}
	s, where, told := source.Parse(text)
	if told != api.OK || where != 0 || !isText(s, text) {
		t.Fatalf("%q: %v, %d, %d", text, s, where, told)
	}
	return true
}

// P34.3, P34.4: all texts that come of one by a byte: what is parsed is printed so, and of all others it is told what is wrong.
func TestNearTexts(t *testing.T) {
	parsed := 0
	for _, text := range []string{
		"task periodic 3 20 0 1099511627776 8\nset r1 5\nend\ntask sporadic 0 1 0 10 1\nend\nobject fifo 2 2 0 4294967295 1 readers init\n",
		"task sporadic 1 1 0 1 1\ndone\nend\nobject seq 1 0 1 10 0 readers 1 20 init 4294967295 0\nobject four 1 0 0 0 0 readers 0 init 1\n",
	} {
		near(text, func(s string) {
			if check(t, s) {
				parsed++
			}
		})
	}
	if parsed < 300 {
		t.Errorf("just %d texts are a system's", parsed)
	}
}

// P34.3: lines in any order.
func TestAnyLines(t *testing.T) {
	r := rand.New(rand.NewPCG(34, 3))
	lines := []string{
		"task periodic 3 20 0 20 8\n", "task sporadic 1 1 0 1 1\n", "end\n", "end\n", "end\n", "done\n", "nop\n", "object fifo 2 2 0 3 1 readers init\n", "object seq 1 0 1 0 0 readers 1 init 5\n",
		"\n", "task\n", "object fifo 2 2 0 3 1 readers\n", "end", "nop", "",
	}
	parsed := 0
	for range 30000 {
		text := ""
		for range r.IntN(8) {
			text += lines[min(r.IntN(len(lines)), r.IntN(len(lines)))]
		}
		if check(t, text) && text != "" {
			parsed++
		}
	}
	if parsed < 500 {
		t.Errorf("just %d texts are a system's", parsed)
	}
}

// random is a system that has a text, and an image.
func random(r *rand.Rand) api.System {
	number := func() int { return r.IntN(1 << r.IntN(9)) }
	var s api.System
	for range r.IntN(6) {
		x := api.Task{Kind: 1 + r.IntN(2), Prio: number(), Period: int(r.Uint32()), Offset: int(r.Uint32()), Deadline: number(), Own: number()}
		for range r.IntN(9) {
			x.Code = append(x.Code, []instr{{}, {Op: api.Done}, {Op: api.Set, A: r.IntN(8), N: r.Uint32()}, {Op: api.Add, A: r.IntN(8), B: r.IntN(8), C: r.IntN(8)}, {Op: api.Back, C: 1 + r.IntN(255), N: r.Uint32N(64)}, {Op: api.Take, A: r.IntN(8), B: r.IntN(8), N: r.Uint32N(64)}}[r.IntN(6)])
		}
		s.Tasks = append(s.Tasks, x)
	}
	for range r.IntN(6) {
		x := api.Object{Kind: 1 + r.IntN(6), Width: number(), Slots: number(), Cap: number(), Start: r.Uint32(), Writer: number()}
		for range r.IntN(5) {
			x.Readers = append(x.Readers, number())
		}
		for range r.IntN(9) {
			x.Init = append(x.Init, r.Uint32()>>r.IntN(32))
		}
		s.Objects = append(s.Objects, x)
	}
	return s
}

// P34.4, P7: Parse of Print is what there was, and a text and an image of one system lead to the same.
func TestTextAndImage(t *testing.T) {
	r := rand.New(rand.NewPCG(34, 4))
	for range 1000 {
		s := random(r)
		text, ok := source.Print(s)
		if !ok || !isText(s, text) || !isSystemText(text) {
			t.Fatalf("%v: %q, %v", s, text, ok)
		}
		parsed, _, _ := source.Parse(text)
		b, ok := image.Encode(parsed)
		decoded, _, e := image.Decode(b)
		again, _ := source.Print(decoded)
		if !ok || e != api.OK || !system.Same(decoded, s) || again != text {
			t.Fatalf("%v: %d, %q", s, e, again)
		}
	}
}

// P34.1: what is handed in is not changed, and what is told is new memory.
func TestPure(t *testing.T) {
	s := some()
	source.Print(s)
	if !system.Same(s, some()) {
		t.Error("changed")
	}
	x, _, _ := source.Parse(someText)
	y, _, _ := source.Parse(someText)
	x.Tasks[0].Code[0].Op++
	x.Objects[3].Readers[0]++
	x.Objects[3].Init[0]++
	for i := range x.Tasks {
		_ = append(x.Tasks[i].Code, instr{Op: 9})
	}
	for k := range x.Objects {
		_, _ = append(x.Objects[k].Readers, 9), append(x.Objects[k].Init, 9)
	}
	x.Tasks[1], x.Objects[1] = api.Task{}, api.Object{}
	if !system.Same(y, some()) {
		t.Error("two systems have one memory")
	}
}
