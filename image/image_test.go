package image_test

import (
	"bytes"
	"encoding/binary"
	"math"
	"math/rand/v2"
	"slices"
	"testing"

	"coxswain/api"
	"coxswain/image"
	"coxswain/system"
)

// small is a system that has some of all, most of its numbers unlike one another, and none that may not be told.
func small() api.System {
	return api.System{
		Tasks: []api.Task{
			{Kind: 1, Prio: 2, Period: 0x04030201, Offset: 0x08070605, Deadline: 0x0c0b0a09, Own: 13, Code: []api.Instr{{Op: 21, A: 22, B: 23, C: 24, N: 0x1c1b1a19}, {}}},
			{Kind: 31, Prio: 32, Period: 33, Offset: 34, Deadline: 35, Own: 36},
		},
		Objects: []api.Object{
			{Kind: 41, Width: 42, Slots: 43, Cap: 44, Start: 0x30201045, Writer: 46, Readers: []int{47, 48, 49}, Init: []uint32{0x54535251, 7}},
			{Kind: 61, Width: 62, Slots: 63, Cap: 64, Start: 65, Writer: 66},
		},
	}
}

// smallImage is small's image, without its sum.
func smallImage() []byte {
	return []byte{67, 88, 1, 2, 2,
		1, 2, 1, 2, 3, 4, 5, 6, 7, 8, 9, 10, 11, 12, 13, 2,
		21, 22, 23, 24, 25, 26, 27, 28, 0, 0, 0, 0, 0, 0, 0, 0,
		31, 32, 33, 0, 0, 0, 34, 0, 0, 0, 35, 0, 0, 0, 36, 0,
		41, 42, 43, 44, 0x45, 0x10, 0x20, 0x30, 46, 3, 47, 48, 49, 2, 0x51, 0x52, 0x53, 0x54, 7, 0, 0, 0,
		61, 62, 63, 64, 65, 0, 0, 0, 66, 0, 0,
	}
}

// summed is bytes, and their sum behind them.
func summed(b []byte) []byte {
	sum := 0
	for _, x := range b {
		sum += int(x)
	}
	return append(slices.Clone(b), byte(sum), byte(sum>>8))
}

// plain is a system's image, laid otherwise than the program does; all its numbers fit.
func plain(s api.System) []byte {
	b := []byte{67, 88, 1, byte(len(s.Tasks)), byte(len(s.Objects))}
	four := func(n int) { b = binary.LittleEndian.AppendUint32(b, uint32(n)) }
	for _, x := range s.Tasks {
		b = append(b, byte(x.Kind), byte(x.Prio))
		four(x.Period)
		four(x.Offset)
		four(x.Deadline)
		b = append(b, byte(x.Own), byte(len(x.Code)))
		for _, i := range x.Code {
			b = append(b, byte(i.Op), byte(i.A), byte(i.B), byte(i.C))
			four(int(i.N))
		}
	}
	for _, x := range s.Objects {
		b = append(b, byte(x.Kind), byte(x.Width), byte(x.Slots), byte(x.Cap))
		four(int(x.Start))
		b = append(b, byte(x.Writer), byte(len(x.Readers)))
		for _, r := range x.Readers {
			b = append(b, byte(r))
		}
		b = append(b, byte(len(x.Init)))
		for _, w := range x.Init {
			four(int(w))
		}
	}
	return summed(b)
}

// random is a system that fits.
func random(r *rand.Rand) api.System {
	small := func() int { return r.IntN(256) }
	large := func() int { return int(r.Uint32()) }
	var s api.System
	for range r.IntN(9) {
		x := api.Task{Kind: small(), Prio: small(), Period: large(), Offset: large(), Deadline: large(), Own: small()}
		for range r.IntN(20) {
			x.Code = append(x.Code, api.Instr{Op: small(), A: small(), B: small(), C: small(), N: r.Uint32()})
		}
		s.Tasks = append(s.Tasks, x)
	}
	for range r.IntN(9) {
		x := api.Object{Kind: small(), Width: small(), Slots: small(), Cap: small(), Start: r.Uint32(), Writer: small()}
		for range r.IntN(6) {
			x.Readers = append(x.Readers, small())
		}
		for range r.IntN(9) {
			x.Init = append(x.Init, r.Uint32())
		}
		s.Objects = append(s.Objects, x)
	}
	return s
}

// isImage tells whether a system has this image, and the other way round.
func isImage(s api.System, want []byte) bool {
	b, ok := image.Encode(s)
	back, at, e := image.Decode(want)
	return ok && image.Fits(s) && bytes.Equal(b, want) && e == api.OK && at == 0 && system.Same(back, s)
}

// fitsNot tells whether a system has no image.
func fitsNot(s api.System) bool {
	b, ok := image.Encode(s)
	return !image.Fits(s) && !ok && len(b) == 0
}

// isWrong tells whether Decode tells this error, and nothing else.
func isWrong(b []byte, at int, e api.Errno) bool {
	s, where, told := image.Decode(b)
	return told == e && where == at && len(s.Tasks) == 0 && len(s.Objects) == 0
}

// P33.2: the example, and a system with some of all, byte by byte.
func TestImages(t *testing.T) {
	if !isImage(api.System{}, []byte{67, 88, 1, 0, 0, 156, 0}) || !isImage(api.System{Tasks: []api.Task{}, Objects: []api.Object{}}, []byte{67, 88, 1, 0, 0, 156, 0}) {
		t.Error("a system without tasks and objects")
	}
	if !isImage(small(), summed(smallImage())) {
		b, ok := image.Encode(small())
		t.Errorf("%v, %v", b, ok)
	}
}

// P33.2, P33.4: Decode of Encode is what there was.
func TestRandomImages(t *testing.T) {
	r := rand.New(rand.NewPCG(33, 4))
	for range 500 {
		if s := random(r); !isImage(s, plain(s)) {
			t.Fatalf("%v", s)
		}
	}
}

// P33.2: each number at the ends of what its bytes can tell, and beyond.
func TestFits(t *testing.T) {
	one := map[string]func(*api.System, int){
		"Kind": func(s *api.System, n int) { s.Tasks[1].Kind = n }, "Prio": func(s *api.System, n int) { s.Tasks[0].Prio = n }, "Own": func(s *api.System, n int) { s.Tasks[1].Own = n },
		"Op": func(s *api.System, n int) { s.Tasks[0].Code[1].Op = n }, "A": func(s *api.System, n int) { s.Tasks[0].Code[0].A = n },
		"B": func(s *api.System, n int) { s.Tasks[0].Code[1].B = n }, "C": func(s *api.System, n int) { s.Tasks[0].Code[0].C = n },
		"object's Kind": func(s *api.System, n int) { s.Objects[0].Kind = n }, "Width": func(s *api.System, n int) { s.Objects[1].Width = n },
		"Slots": func(s *api.System, n int) { s.Objects[0].Slots = n }, "Cap": func(s *api.System, n int) { s.Objects[1].Cap = n },
		"Writer": func(s *api.System, n int) { s.Objects[1].Writer = n }, "reader": func(s *api.System, n int) { s.Objects[0].Readers[2] = n },
	}
	four := map[string]func(*api.System, int){
		"Period": func(s *api.System, n int) { s.Tasks[0].Period = n }, "Offset": func(s *api.System, n int) { s.Tasks[1].Offset = n }, "Deadline": func(s *api.System, n int) { s.Tasks[1].Deadline = n },
	}
	check := func(name string, set func(*api.System, int), n int, want bool) {
		s := small()
		set(&s, n)
		if want && !isImage(s, plain(s)) || !want && !fitsNot(s) {
			t.Errorf("%s %d", name, n)
		}
	}
	for name, set := range one {
		for _, n := range []int{0, 1, 128, 255} {
			check(name, set, n, true)
		}
		for _, n := range []int{-1, 256, -256, 65536, 1 << 32, math.MinInt, math.MaxInt} {
			check(name, set, n, false)
		}
	}
	for name, set := range four {
		for _, n := range []int{0, 255, 256, 1 << 31, 1<<32 - 1} {
			check(name, set, n, true)
		}
		for _, n := range []int{-1, 1 << 32, 1 << 40, -(1 << 32), math.MinInt, math.MaxInt} {
			check(name, set, n, false)
		}
	}
	s := small()
	s.Tasks[0].Code[0].N, s.Objects[0].Start, s.Objects[0].Init[0] = math.MaxUint32, math.MaxUint32, math.MaxUint32
	if !isImage(s, plain(s)) {
		t.Error("the greatest words")
	}
}

// P33.2: how many tasks, objects, instructions, readers and words there may be.
func TestFitsLists(t *testing.T) {
	for name, of := range map[string]func(n int) api.System{
		"tasks":        func(n int) api.System { return api.System{Tasks: make([]api.Task, n)} },
		"objects":      func(n int) api.System { return api.System{Objects: make([]api.Object, n)} },
		"instructions": func(n int) api.System { return api.System{Tasks: []api.Task{{Code: make([]api.Instr, n)}}} },
		"readers":      func(n int) api.System { return api.System{Objects: []api.Object{{Readers: make([]int, n)}}} },
		"words":        func(n int) api.System { return api.System{Objects: []api.Object{{Init: make([]uint32, n)}}} },
	} {
		for _, n := range []int{0, 1, 254, 255} {
			if s := of(n); !isImage(s, plain(s)) {
				t.Errorf("%d %s", n, name)
			}
		}
		for _, n := range []int{256, 257, 512, 65535, 65536, 1 << 20} {
			if !fitsNot(of(n)) {
				t.Errorf("%d %s", n, name)
			}
		}
	}
}

// full is a system with an image of MaxBytes, and more bytes.
func full(more int) api.System {
	s := api.System{Tasks: slices.Repeat([]api.Task{{Code: make([]api.Instr, 255)}}, 31)}
	s.Objects = []api.Object{{Readers: make([]int, 255), Init: make([]uint32, 255)}, {Readers: make([]int, more), Init: make([]uint32, 124)}}
	for i := range s.Tasks {
		s.Tasks[i].Prio, s.Tasks[i].Period = 255, math.MaxUint32
	}
	return s
}

// P33.2, P33.3: how long an image may be.
func TestRoom(t *testing.T) {
	s := full(0)
	b := plain(s)
	if len(b) != api.MaxBytes || !isImage(s, b) {
		t.Errorf("an image of %d bytes", len(b))
	}
	for more := 1; more < 4; more++ {
		s := full(more)
		if !fitsNot(s) || len(plain(s)) != api.MaxBytes+more || !isWrong(plain(s), 0, api.ErrRoom) {
			t.Errorf("%d bytes more", more)
		}
	}
	if !isWrong(append(b, 0), 0, api.ErrRoom) || !isWrong(make([]byte, api.MaxBytes+1), 0, api.ErrRoom) || !isWrong(make([]byte, 1<<20), 0, api.ErrRoom) {
		t.Error("the room comes ahead of all")
	}
	if !isWrong(make([]byte, api.MaxBytes), 0, api.ErrForm) {
		t.Error("MaxBytes of noughts")
	}
	long := append(summed(smallImage()), make([]byte, api.MaxBytes-len(smallImage())-2)...)
	if !isWrong(long, len(smallImage())+2, api.ErrMore) || !isWrong(append(long, 0), 0, api.ErrRoom) {
		t.Error("an image, and bytes behind it up to MaxBytes")
	}
	if !fitsNot(api.System{Tasks: slices.Repeat([]api.Task{{Code: make([]api.Instr, 255)}}, 255)}) {
		t.Error("255 tasks of 255 instructions")
	}
}

// P33.2: sums, modulo 65536.
func TestSum(t *testing.T) {
	for _, c := range []struct {
		b    []byte
		want int
	}{
		{nil, 0}, {[]byte{}, 0}, {[]byte{7}, 7}, {[]byte{255, 255, 2}, 512}, {[]byte{67, 88, 1, 0, 0}, 156},
		{bytes.Repeat([]byte{255}, 257), 65535}, {append(bytes.Repeat([]byte{255}, 257), 1), 0}, {append(bytes.Repeat([]byte{255}, 257), 3), 2},
		{bytes.Repeat([]byte{255}, 1<<20), (255 << 20) % 65536}, {bytes.Repeat([]byte{129}, 100003), 129 * 100003 % 65536},
	} {
		if n := image.Sum(c.b); n != c.want {
			t.Errorf("of %d bytes: %d, not %d", len(c.b), n, c.want)
		}
	}
	s := full(0)
	total := 0
	b, _ := image.Encode(s)
	for _, x := range b[:len(b)-2] {
		total += int(x)
	}
	if total < 1<<15 || image.Sum(b[:len(b)-2]) != int(binary.LittleEndian.Uint16(b[len(b)-2:])) {
		t.Error("the sum of a long image")
	}
	many := api.System{Tasks: []api.Task{{Code: slices.Repeat([]api.Instr{{Op: 255, A: 255, B: 255, C: 255, N: math.MaxUint32}}, 200)}}}
	if !isImage(many, plain(many)) {
		t.Error("a sum that goes round")
	}
}

// P33.3: bytes that do not begin as an image.
func TestHead(t *testing.T) {
	for i, right := range []byte{67, 88, 1} {
		for x := range 256 {
			if byte(x) == right {
				continue
			}
			b := smallImage()
			b[i] = byte(x)
			if b := summed(b); !isWrong(b, 0, api.ErrForm) || !isWrong(b[:3], 0, api.ErrForm) || !isWrong(b[:4], 0, api.ErrForm) || !isWrong(b[:2], 2, api.ErrEnd) || !isWrong(b[:1], 1, api.ErrEnd) {
				t.Errorf("%d at %d", x, i)
			}
		}
	}
	if !isWrong(nil, 0, api.ErrEnd) || !isWrong([]byte{}, 0, api.ErrEnd) || !isWrong([]byte{0, 0}, 2, api.ErrEnd) || !isWrong([]byte{0, 0, 0}, 0, api.ErrForm) {
		t.Error("few bytes")
	}
}

// P33.3: bytes that end ahead.
func TestEnd(t *testing.T) {
	b := summed(smallImage())
	for n := range b {
		if !isWrong(b[:n], n, api.ErrEnd) {
			_, at, e := image.Decode(b[:n])
			t.Errorf("%d bytes: %d, %d", n, at, e)
		}
	}
	for _, counts := range [][]byte{{255, 255}, {255, 0}, {0, 255}, {1, 0}, {0, 1}} {
		b := append([]byte{67, 88, 1}, counts...)
		if !isWrong(b, 5, api.ErrEnd) || !isWrong(summed(b), 7, api.ErrEnd) {
			t.Errorf("%v", b)
		}
	}
}

// P33.3: another sum, and bytes that are left.
func TestSumAndMore(t *testing.T) {
	b := smallImage()
	right := summed(b)
	for at := range 2 {
		for x := range 256 {
			wrong := slices.Clone(right)
			if wrong[len(b)+at] == byte(x) {
				continue
			}
			wrong[len(b)+at] = byte(x)
			if !isWrong(wrong, len(b), api.ErrForm) || !isWrong(append(wrong, 0), len(b), api.ErrForm) {
				t.Errorf("%d at %d of the sum", x, at)
			}
		}
	}
	for more := 1; more < 9; more++ {
		if !isWrong(append(slices.Clone(right), make([]byte, more)...), len(right), api.ErrMore) || !isWrong(append(slices.Clone(right), right[:more]...), len(right), api.ErrMore) {
			t.Errorf("%d bytes more", more)
		}
	}
	if !isWrong([]byte{67, 88, 1, 0, 0, 0, 156}, 5, api.ErrForm) || !isWrong([]byte{67, 88, 1, 0, 0, 156, 0, 0}, 7, api.ErrMore) {
		t.Error("of the example")
	}
}

// P33.4: if a byte is changed an error is told, or another system.
func TestChangedByte(t *testing.T) {
	b := summed(smallImage())
	want := small()
	for i := range b {
		for x := range 256 {
			c := slices.Clone(b)
			if c[i] = byte(x); c[i] == b[i] {
				continue
			}
			if s, _, e := image.Decode(c); e == api.OK && system.Same(s, want) {
				t.Fatalf("%d at %d is not seen", x, i)
			}
		}
	}
}

// P33.4: bytes that are decoded are encoded so; whatever they are, an error is told where it is.
func TestAnyBytes(t *testing.T) {
	r := rand.New(rand.NewPCG(33, 5))
	decoded := 0
	for range 200000 {
		b := []byte{67, 88, 1, byte(r.IntN(3)), byte(r.IntN(3))}
		for range r.IntN(60) {
			b = append(b, byte(r.IntN(3)*r.IntN(2)))
		}
		if r.IntN(2) > 0 {
			b = summed(b)
		}
		s, at, e := image.Decode(b)
		if e != api.OK {
			if len(s.Tasks) != 0 || len(s.Objects) != 0 || at < 5 || at > len(b) || e == api.ErrEnd && at != len(b) {
				t.Fatalf("%v: %v, %d, %d", b, s, at, e)
			}
			continue
		}
		decoded++
		if again, ok := image.Encode(s); !ok || !bytes.Equal(again, b) || at != 0 {
			t.Fatalf("%v: %v", b, again)
		}
	}
	if decoded < 500 {
		t.Errorf("just %d were decoded", decoded)
	}
}

// P33.1: what is handed in is not changed, and what is told is new memory.
func TestPure(t *testing.T) {
	s := small()
	b, _ := image.Encode(s)
	c, _ := image.Encode(s)
	clear(b)
	if !bytes.Equal(c, summed(smallImage())) || !system.Same(s, small()) {
		t.Error("two images have one memory")
	}
	x, _, _ := image.Decode(c)
	y, _, _ := image.Decode(c)
	x.Tasks[0].Code[0].Op++
	x.Objects[0].Readers[0]++
	x.Objects[0].Init[0]++
	_ = append(x.Tasks[0].Code, api.Instr{Op: 9})
	_ = append(x.Objects[0].Readers, 9)
	_ = append(x.Objects[0].Init, 9)
	x.Tasks[0], x.Objects[1] = api.Task{}, api.Object{}
	if !system.Same(y, small()) || !bytes.Equal(c, summed(smallImage())) {
		t.Error("two systems have one memory")
	}
}
