// Package lines is what the texts of programs (9), of scripts (42) and of what came (43) have in common: things, a line each, with a line feed behind it. See ../../shared/doc/43-trace.md, P43.3.
package lines

import (
	"strings"

	"coxswain/api"
)

// Print is the text of things, of each of which line is the line; false, if one has none.
func Print[T any](l []T, line func(T) (string, bool)) (string, bool) {
	var b strings.Builder
	for _, x := range l {
		s, ok := line(x)
		if !ok {
			return "", false
		}
		b.WriteString(s)
		b.WriteByte('\n')
	}
	return b.String(), true
}

// Parse is the things of a text, each as read reads its line; else the number, from 1 on, of the first line that is wrong, and what is wrong of it.
func Parse[T any](s string, read func(string) (T, bool)) ([]T, int, api.Errno) {
	var l []T
	for s != "" {
		line, rest, fed := strings.Cut(s, "\n")
		if !fed {
			return nil, len(l) + 1, api.ErrEnd
		}
		x, ok := read(line)
		if !ok {
			return nil, len(l) + 1, api.ErrForm
		}
		l = append(l, x)
		s = rest
	}
	return l, 0, api.OK
}
