package cmds

import (
	"strings"

	"inkhorn/addr"
	"inkhorn/api"
)

// mostDigits is how many digits may stand behind a z.
const mostDigits = 4

// nothing refuses whatever stands there.
func nothing(s string) api.Errno {
	if s != "" {
		return api.ErrSuffix
	}
	return api.OK
}

// suffix reads what is to be told behind a command, behind which nothing else stands.
func suffix(x *api.Cmd, s string) api.Errno {
	if s != "" && isPrint(s[0]) {
		x.Print, s = s[0], s[1:]
	}
	return nothing(s)
}

// mark reads a mark's letter.
func mark(x *api.Cmd, s string) api.Errno {
	s = strings.TrimLeft(s, blanks)
	if s == "" || !isSmall(s[0]) {
		return api.ErrSuffix
	}
	x.Letter = s[0]
	return suffix(x, s[1:])
}

// register reads a register's letter, or that none is said.
func register(x *api.Cmd, s string) api.Errno {
	if s == "" {
		return api.OK
	}
	s = strings.TrimLeft(s, blanks)
	if s == "" || !isSmall(s[0]) && !isGreat(s[0]) {
		return api.ErrSuffix
	}
	x.Letter = s[0]
	return suffix(x, s[1:])
}

// dest reads the address of a destination.
func dest(x *api.Cmd, s string) api.Errno {
	a, next, e := addr.One(s)
	if e != api.OK {
		return e
	}
	x.Dest = a
	return suffix(x, s[next:])
}

// digits reads how many lines are asked for.
func digits(x *api.Cmd, s string) api.Errno {
	if len(s) > mostDigits || strings.Trim(s, "0123456789") != "" {
		return api.ErrSuffix
	}
	x.Name2 = s
	return api.OK
}

// file reads a file's name, or that none is said.
func file(x *api.Cmd, s string) api.Errno {
	name, e := Asks(s)
	x.Name2 = name
	return e
}

func isPrint(b byte) bool { return b == 'p' || b == 'l' || b == 'n' }
func isSmall(b byte) bool { return b >= 'a' && b <= 'z' }
func isGreat(b byte) bool { return b >= 'A' && b <= 'Z' }
func isDigit(b byte) bool { return b >= '0' && b <= '9' }
