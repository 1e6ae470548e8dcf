package record_test

import (
	"math"
	"slices"
	"strings"
	"testing"

	"coxswain/api"
	"coxswain/record"
)

type rec = []uint32

// P4.2: Same, by length and by words.
func TestSame(t *testing.T) {
	l := []rec{{}, {0}, {1}, {0, 0}, {1, 2}, {1, 3}, {2, 1}, {1, 2, 0}, {math.MaxUint32}}
	for i, a := range l {
		for k, b := range l {
			if record.Same(a, slices.Clone(b)) != (i == k) {
				t.Errorf("Same of %v and %v", a, b)
			}
		}
	}
	if !record.Same(nil, rec{}) || !record.Same(nil, nil) {
		t.Error("nil and empty mean the same")
	}
}

// P4.1, P4.2: a copy is apart.
func TestCopy(t *testing.T) {
	r := rec{1, 2, 3, 4}
	c := record.Copy(r[:3])
	if !slices.Equal(c, rec{1, 2, 3}) {
		t.Fatalf("Copy: %v", c)
	}
	c[0] = 9
	_ = append(c, 9)
	if !slices.Equal(r, rec{1, 2, 3, 4}) {
		t.Errorf("the record is now %v", r)
	}
	if len(record.Copy(nil)) != 0 || len(record.Copy(rec{})) != 0 {
		t.Error("Copy of none")
	}
}

// P4.2: Find tells the first place.
func TestFind(t *testing.T) {
	l := []rec{{1}, {1, 2}, {}, {1, 2}, {3}}
	for _, c := range []struct {
		r    rec
		want int
		ok   bool
	}{{rec{1}, 0, true}, {rec{1, 2}, 1, true}, {nil, 2, true}, {rec{3}, 4, true}, {rec{2}, 0, false}, {rec{1, 2, 3}, 0, false}} {
		if i, ok := record.Find(l, c.r); i != c.want || ok != c.ok {
			t.Errorf("Find of %v: %d %v", c.r, i, ok)
		}
	}
	if i, ok := record.Find(nil, nil); i != 0 || ok {
		t.Error("Find in none")
	}
}

// P4.2: Mixed.
func TestMixed(t *testing.T) {
	two := []rec{{2, 7}, {5, 16}}
	for _, c := range []struct {
		name string
		l    []rec
		r    rec
		want bool
	}{
		{"a word of each", two, rec{2, 16}, true},
		{"the other way round", two, rec{5, 7}, true},
		{"one of the list", two, rec{5, 16}, false},
		{"the words at each other's places", two, rec{7, 2}, false},
		{"the last word strange", two, rec{2, 8}, false},
		{"the first word strange", two, rec{3, 7}, false},
		{"empty", two, rec{}, false},
		{"nil", two, nil, false},
		{"of no records", nil, rec{1}, false},
		{"of empty records", []rec{{}, nil}, rec{1}, false},
		{"shorter than all", two, rec{2}, true},
		{"longer than all", two, rec{2, 16, 1}, false},
		{"of records of unlike lengths", []rec{{1}, {2, 3}, {4, 5, 6}}, rec{1, 3, 6}, true},
		{"a strange word in the midst", []rec{{1, 2, 3}, {4, 5, 6}}, rec{1, 6, 3}, false},
		{"three of three", []rec{{1, 1, 1}, {2, 2, 2}, {3, 3, 3}}, rec{3, 1, 2}, true},
		{"longer, from one that is there", []rec{{1}, {0, 9}}, rec{1, 9}, true},
	} {
		if record.Mixed(c.l, c.r) != c.want {
			t.Errorf("%s: Mixed of %v and %v is not %v", c.name, c.l, c.r, c.want)
		}
	}
}

// numbers are such of which stamps are made.
var numbers = []uint32{0, 1, 2, 3, 7, 1 << 16, 1<<31 - 1, 1 << 31, math.MaxUint32 - 1, math.MaxUint32}

// P4.3: Stamp, at each place, and of how many words.
func TestStamp(t *testing.T) {
	for _, width := range []int{math.MinInt, -1, 0, 1, 2, 7, 8, 9, 1000, math.MaxInt} {
		for _, k := range numbers {
			r := record.Stamp(width, k)
			if len(r) != min(max(width, 0), api.MaxWidth) {
				t.Fatalf("Stamp of %d words has %d", width, len(r))
			}
			for i, w := range r {
				if uint64(w) != (uint64(k)*uint64(2*i+1)+uint64(i))%(1<<32) {
					t.Errorf("Stamp of %d, place %d: %d", k, i, w)
				}
			}
		}
	}
}

// P4.3: Unstamp leads back from each stamp, and from nothing else.
func TestUnstamp(t *testing.T) {
	for width := 1; width <= api.MaxWidth; width++ {
		for _, k := range numbers {
			r := record.Stamp(width, k)
			if got, ok := record.Unstamp(r); got != k || !ok {
				t.Errorf("Unstamp of %v: %d %v", r, got, ok)
			}
			for i := 1; i < width; i++ {
				bad := slices.Clone(r)
				bad[i]++
				if got, ok := record.Unstamp(bad); got != 0 || ok {
					t.Errorf("Unstamp of %v: %d %v", bad, got, ok)
				}
			}
		}
	}
	long := make(rec, api.MaxWidth+1)
	for i := range long {
		long[i] = 5*uint32(2*i+1) + uint32(i)
	}
	for _, r := range []rec{nil, {}, long, {2, 8}, {2, 7, 13}} {
		if got, ok := record.Unstamp(r); got != 0 || ok {
			t.Errorf("Unstamp of %v: %d %v", r, got, ok)
		}
	}
}

// P4.4: Show, and Read of what it tells.
func TestShowAndRead(t *testing.T) {
	for s, r := range map[string]rec{"": nil, "0": {0}, "5 16": {5, 16}, "4294967295 0 10": {math.MaxUint32, 0, 10}, "1 2 3 4 5 6 7 8 9": {1, 2, 3, 4, 5, 6, 7, 8, 9}} {
		if got := record.Show(r); got != s {
			t.Errorf("Show of %v: %q", r, got)
		}
		for most := -1; most < 12; most++ {
			got, ok := record.Read(s, most)
			if ok != (len(r) <= most) || ok && !slices.Equal(got, r) || !ok && len(got) != 0 {
				t.Errorf("Read of %q, at most %d: %v %v", s, most, got, ok)
			}
		}
		if got, ok := record.Read(s, math.MaxInt); !ok || !slices.Equal(got, r) {
			t.Errorf("Read of %q: %v %v", s, got, ok)
		}
		if got, ok := record.Read(s, math.MinInt); ok || len(got) != 0 {
			t.Errorf("Read of %q, at most less than none: %v %v", s, got, ok)
		}
	}
}

// P4.4: texts that no record has.
func TestReadOthers(t *testing.T) {
	for _, s := range []string{" ", "  ", " 1", "1 ", "1  2", "1\t2", "1\n", "1\n2", "00", "01", "1 02", "+1", "-1", "-0", "4294967296", "18446744073709551616", "0x1", "1_0", "1.0", "1,2", "a", "1 a", "½", "١", "\x00", "1\x002", "\xff", strings.Repeat("9", 5000)} {
		if r, ok := record.Read(s, 9); ok || len(r) != 0 {
			t.Errorf("Read of %q: %v %v", s, r, ok)
		}
	}
}

// P4.5: stamps of unlike numbers are unlike at each place, and what is mixed of them is none of them.
func TestStampsAreToldApart(t *testing.T) {
	const width = 3
	var l []rec
	for _, k := range numbers {
		l = append(l, record.Stamp(width, k))
	}
	for i, a := range l {
		for k, b := range l[:i] {
			for at := range width {
				if a[at] == b[at] {
					t.Errorf("stamps of %d and %d at %d", numbers[i], numbers[k], at)
				}
			}
		}
	}
	for _, a := range l {
		for _, b := range l {
			for _, c := range l {
				r := rec{a[0], b[1], c[2]}
				k, ok := record.Unstamp(r)
				if record.Mixed(l, r) && ok && slices.Contains(numbers, k) {
					t.Errorf("%v is mixed, and a stamp", r)
				}
				if _, whole := record.Find(l, r); record.Mixed(l, r) == whole {
					t.Errorf("%v is made of stamps: either one of them, or mixed", r)
				}
			}
		}
	}
}

// The chapter's examples, and P4.1: what is handed in stays.
func TestExamples(t *testing.T) {
	l, r := []rec{{2, 7}, {5, 16}}, rec{2, 16}
	if !slices.Equal(record.Stamp(3, 2), rec{2, 7, 12}) || !record.Mixed(l, r) {
		t.Error("an example of the chapter")
	}
	record.Find(l, r)
	record.Show(r)
	record.Unstamp(r)
	if !slices.Equal(r, rec{2, 16}) || !slices.Equal(l[0], rec{2, 7}) || !slices.Equal(l[1], rec{5, 16}) {
		t.Error("what was handed in has changed")
	}
}
