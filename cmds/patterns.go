package cmds

import (
	"strings"

	"inkhorn/addr"
	"inkhorn/api"
	"inkhorn/bre"
	"inkhorn/templates"
)

// enough is the number from which on no more digits are read of it.
const enough = 1000

// substitution reads what belongs to s.
func substitution(x *api.Cmd, s string) api.Errno {
	groups, at, closed, e := pattern(x, s)
	if e != api.OK {
		return e
	}
	if !closed {
		return api.ErrPattern
	}
	repl, next, closed := addr.Delimited(s, at, s[0])
	t, e := templates.Parse(repl)
	if e != api.OK {
		return e
	}
	// An empty pattern is another one, whose groups are known as it is used.
	if x.Re != "" && templates.Most(t) > groups {
		return api.ErrRepl
	}
	x.Repl, x.Nth = repl, 1
	if !closed {
		x.Print = 'p'
		return api.OK
	}
	return flags(x, s[next:])
}

// global reads what belongs to g and v.
func global(x *api.Cmd, s string) api.Errno {
	_, next, _, e := pattern(x, s)
	if e != api.OK {
		return e
	}
	x.Sub = s[next:]
	if strings.Trim(x.Sub, blanks) == "" {
		x.Sub = "p"
	}
	return api.OK
}

// pattern reads a delimiter, and a pattern up to it, which has so many groups; closed: its end is delimited.
func pattern(x *api.Cmd, s string) (groups, next int, closed bool, e api.Errno) {
	if s == "" || s[0] == ' ' || s[0] == '\\' {
		return 0, 0, false, api.ErrPattern
	}
	x.Re, next, closed = addr.Delimited(s, 1, s[0])
	if x.Re == "" {
		return 0, next, closed, api.OK
	}
	re, e := bre.Parse(x.Re)
	return bre.Groups(re), next, closed, e
}

// flags reads what stands behind a replacement, in any order, each at most once.
func flags(x *api.Cmd, s string) api.Errno {
	counted := false
	for s != "" {
		switch b := s[0]; {
		case b == 'g' && !x.All:
			x.All, s = true, s[1:]
		case isPrint(b) && x.Print == 0:
			x.Print, s = b, s[1:]
		case isDigit(b) && !counted:
			x.Nth, s = number(s)
			counted = true
		default:
			return api.ErrSuffix
		}
	}
	if x.Nth < 1 {
		return api.ErrSuffix
	}
	return api.OK
}

// number is what the digits at the beginning of a text say, and what stands behind those that were read.
func number(s string) (n int, behind string) {
	for s != "" && isDigit(s[0]) && n < enough {
		n, s = 10*n+int(s[0]-'0'), s[1:]
	}
	return n, s
}
