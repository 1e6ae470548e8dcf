// Package record is layer 4: see ../../shared/doc/04-record.md.
package record

import (
	"slices"
	"strconv"
	"strings"

	"coxswain/api"
)

// Same tells whether two records are one.
func Same(a, b []uint32) bool { return slices.Equal(a, b) }

// Copy is a record, apart.
func Copy(r []uint32) []uint32 { return slices.Clone(r) }

// Find is where a record stands.
func Find(l [][]uint32, r []uint32) (int, bool) {
	for i, x := range l {
		if Same(x, r) {
			return i, true
		}
	}
	return 0, false
}

// Mixed tells whether a record is made of others' words.
func Mixed(l [][]uint32, r []uint32) bool {
	if _, whole := Find(l, r); whole || len(r) == 0 {
		return false
	}
words:
	for i, w := range r {
		for _, x := range l {
			if i < len(x) && x[i] == w {
				continue words
			}
		}
		return false
	}
	return true
}

// Stamp is a record that is made of a number.
func Stamp(width int, k uint32) []uint32 {
	r := make([]uint32, min(max(width, 0), api.MaxWidth))
	for i := range r {
		at := uint32(i)
		r[i] = k*(2*at+1) + at
	}
	return r
}

// Unstamp is the number of which a record was made.
func Unstamp(r []uint32) (uint32, bool) {
	// A stamp's first word is the number itself.
	if len(r) == 0 || !Same(r, Stamp(len(r), r[0])) {
		return 0, false
	}
	return r[0], true
}

// Show is a record's text.
func Show(r []uint32) string {
	var b strings.Builder
	for i, w := range r {
		if i > 0 {
			b.WriteByte(' ')
		}
		b.WriteString(digits(w))
	}
	return b.String()
}

// Read is the record of a text.
func Read(s string, most int) ([]uint32, bool) {
	if s == "" {
		return nil, most >= 0
	}
	// Counted ahead of splitting: a long text that may have few words needs no room for all of them.
	if strings.Count(s, " ") >= most {
		return nil, false
	}
	parts := strings.Split(s, " ")
	r := make([]uint32, len(parts))
	for i, p := range parts {
		w, err := strconv.ParseUint(p, 10, 32)
		// Not each text of a number is the one that Show makes: noughts may stand ahead.
		if err != nil || p != digits(uint32(w)) {
			return nil, false
		}
		r[i] = uint32(w)
	}
	return r, true
}

// digits is a word in decimal digits.
func digits(w uint32) string { return strconv.FormatUint(uint64(w), 10) }
