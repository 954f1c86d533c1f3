package runs

import (
	"strconv"
	"strings"

	"inkhorn/api"
)

const (
	// screenful is how many lines z tells, unless it says how many.
	screenful = 22
	// mostDigits is how many digits may say how many.
	mostDigits = 9
)

// Show is a line as it is told: by p, l or n.
func Show(by byte, n int, line string) string {
	switch by {
	case 'n':
		line = strconv.Itoa(n) + "\t" + line
	case 'l':
		line = visible(line) + "$"
	}
	return line + "\n"
}

// Shift is a line with a tab more ahead of it, or less.
func Shift(line string, right bool) string {
	switch {
	case line == "":
		return ""
	case right:
		return "\t" + line
	case line[0] == '\t':
		return line[1:]
	}
	blanks := len(line) - len(strings.TrimLeft(line, " "))
	return line[min(blanks, api.TabStop):]
}

// say tells what a command asks for that changes nothing.
func (r *run) say(x api.Cmd, a, b int) api.Errno {
	switch x.Name {
	case 'p', 'l', 'n':
		return r.tell(x.Name, a, b)
	case 'z':
		return r.tell('p', b, b+count(x.Name2)-1)
	case '=':
		r.out.WriteString(strconv.Itoa(b) + "\n")
		return api.OK
	}
	return r.tell('p', b, b)
}

// tell tells lines, as far as there are such, the last one of which is the current one then.
func (r *run) tell(by byte, a, b int) api.Errno {
	for i, line := range r.core.Lines(a, b) {
		r.out.WriteString(Show(by, a+i, line))
	}
	return r.core.Go(min(b, r.core.N()))
}

// count is how many lines the digits behind a z ask for.
func count(digits string) int {
	if len(digits) > mostDigits || strings.Trim(digits, "0123456789") != "" {
		return screenful
	}
	n, e := strconv.Atoi(digits)
	if e != nil || n < 1 {
		return screenful
	}
	return n
}

// visible is a line all bytes of which can be seen.
func visible(line string) string {
	var b strings.Builder
	for i := range len(line) {
		switch c := line[i]; {
		case c == '\\' || c == '$':
			b.WriteByte('\\')
			b.WriteByte(c)
		case c == '\t':
			b.WriteString(`\t`)
		case c < ' ' || c > '~':
			b.WriteByte('\\')
			b.WriteByte('0' + c>>6)
			b.WriteByte('0' + c>>3&7)
			b.WriteByte('0' + c&7)
		default:
			b.WriteByte(c)
		}
	}
	return b.String()
}
