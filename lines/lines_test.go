package lines_test

import (
	"slices"
	"strings"
	"testing"

	"coxswain/api"
	"coxswain/lines"
)

// line is a small letter's line, and read the small letter of one: twice the letter.
func line(letter byte) (string, bool) {
	return strings.Repeat(string(letter), 2), letter >= 'a' && letter <= 'z'
}

func read(s string) (byte, bool) {
	if len(s) != 2 || s[0] != s[1] || s[0] < 'a' || s[0] > 'z' {
		return 0, false
	}
	return s[0], true
}

// P9.3, P42.3, P43.3: of each its line, with a line feed; nothing, if one has none.
func TestPrint(t *testing.T) {
	for _, c := range []struct {
		l, want string
		ok      bool
	}{
		{"", "", true}, {"a", "aa\n", true}, {"bab", "bb\naa\nbb\n", true}, {"A", "", false}, {"aA", "", false}, {"Aa", "", false}, {"aAa", "", false},
	} {
		if s, ok := lines.Print([]byte(c.l), line); s != c.want || ok != c.ok {
			t.Errorf("%q: %q, %t", c.l, s, ok)
		}
	}
	if s, ok := lines.Print(nil, line); s != "" || !ok {
		t.Errorf("none: %q, %t", s, ok)
	}
}

// P9.3, P42.3, P43.3: the first line that is wrong, and whether it has a form, or an end.
func TestParse(t *testing.T) {
	for _, c := range []struct {
		s, want string
		at      int
		e       api.Errno
	}{
		{"", "", 0, api.OK}, {"aa\n", "a", 0, api.OK}, {"bb\naa\nbb\n", "bab", 0, api.OK},
		{"\n", "", 1, api.ErrForm}, {"ab\n", "", 1, api.ErrForm}, {"aa\nab\nbb\n", "", 2, api.ErrForm}, {"aa\n\nbb\n", "", 2, api.ErrForm}, {"aa\nbb\n\n", "", 3, api.ErrForm},
		{"aa", "", 1, api.ErrEnd}, {"ab", "", 1, api.ErrEnd}, {"aa\nbb", "", 2, api.ErrEnd}, {"aa\nx", "", 2, api.ErrEnd},
		{"x\naa", "", 1, api.ErrForm}, {"aa\nx\ny\nbb", "", 2, api.ErrForm},
	} {
		if l, at, e := lines.Parse(c.s, read); string(l) != c.want || at != c.at || e != c.e {
			t.Errorf("%q: %q, %d, %d", c.s, l, at, e)
		}
	}
	many := slices.Repeat([]byte("az"), 100000)
	s, _ := lines.Print(many, line)
	if l, at, e := lines.Parse(s, read); !slices.Equal(l, many) || at != 0 || e != api.OK {
		t.Error(len(l), at, e)
	}
}
