// Package lines is layer 1: a text as lines, and lines as a text. See shared/doc/01-lines.md.
package lines

import (
	"iter"
	"slices"
	"strings"

	"inkhorn/api"
)

// lineEnd is what no line has, and what each line of a text but perhaps the last one has behind it.
const lineEnd = "\n"

// Split is a text's lines, and whether the text does not lack an end.
func Split(text string) (l []string, ended bool) {
	ended = true // a text without lines lacks nothing
	for line, whole := range each(text) {
		l = append(l, line)
		ended = whole
	}
	return l, ended
}

// Join is all lines, each with a byte 10 behind it, whatever they are.
func Join(l []string) string {
	var b strings.Builder
	b.Grow(joinedSize(l))
	for _, line := range l {
		b.WriteString(line)
		b.WriteString(lineEnd)
	}
	return b.String()
}

// Check tells whether lines may be those of a buffer: ErrArg, ErrLong, or OK.
func Check(l []string) api.Errno {
	if slices.ContainsFunc(l, hasEnd) {
		return api.ErrArg
	}
	if len(l) > api.MaxLines || slices.ContainsFunc(l, tooLong) {
		return api.ErrLong
	}
	return api.OK
}

// Same tells whether both have the same lines, in order.
func Same(a, b []string) bool {
	return slices.Equal(a, b)
}

// each tells a text's lines one by one, and of each whether its end stands behind it.
func each(text string) iter.Seq2[string, bool] {
	return func(yield func(line string, ended bool) bool) {
		// rest is the range's own, so that the same lines are told to each range.
		for rest := text; rest != ""; {
			line, behind, ended := strings.Cut(rest, lineEnd)
			if !yield(line, ended) {
				return
			}
			rest = behind
		}
	}
}

func joinedSize(l []string) int {
	size := 0
	for _, line := range l {
		size += len(line) + len(lineEnd)
	}
	return size
}

func hasEnd(line string) bool { return strings.Contains(line, lineEnd) }

func tooLong(line string) bool { return len(line) > api.MaxBytes }
