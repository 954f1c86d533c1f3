package addr

import (
	"strings"

	"inkhorn/api"
)

// mostDigits is how many digits a number has at most.
const mostDigits = 9

// Delimited reads what stands up to a delimiter, which belongs to it where a backslash stands ahead; closed: it was there.
func Delimited(s string, at int, by byte) (text string, next int, closed bool) {
	var b strings.Builder
	at = max(at, 0)
	for ; at < len(s); at++ {
		switch {
		case s[at] == '\\' && at+1 < len(s):
			at++
			if s[at] != by {
				b.WriteByte('\\')
			}
		case s[at] == by && by != '\\': // A backslash at the end is itself, even where it is what delimits.
			return b.String(), at + 1, true
		}
		b.WriteByte(s[at])
	}
	return b.String(), at, false
}

// base is the base that stands at a place, and the place behind it, which is the same one if there is none.
func base(s string, at int) (a api.Address, next int, e api.Errno) {
	if at == len(s) {
		return api.Address{}, at, api.OK
	}
	switch b := s[at]; {
	case b == '.':
		return api.Address{Kind: api.AdDot}, at + 1, api.OK
	case b == '$':
		return api.Address{Kind: api.AdLast}, at + 1, api.OK
	case b == '\'':
		return mark(s, at+1)
	case b == '/':
		re, next, _ := Delimited(s, at+1, b)
		return api.Address{Kind: api.AdNext, Re: re}, next, api.OK
	case b == '?':
		re, next, _ := Delimited(s, at+1, b)
		return api.Address{Kind: api.AdPrev, Re: re}, next, api.OK
	case isDigit(b):
		n, next, e := number(s, at)
		return api.Address{Kind: api.AdNumber, N: n}, next, e
	}
	return api.Address{}, at, api.OK
}

// mark is the base of which the letter stands at a place.
func mark(s string, at int) (a api.Address, next int, e api.Errno) {
	if at == len(s) || s[at] < 'a' || s[at] > 'z' {
		return api.Address{}, 0, api.ErrAddress
	}
	return api.Address{Kind: api.AdMark, N: int(s[at] - 'a')}, at + 1, api.OK
}

// addition is what is added by what stands at a place, and the place behind it, which is the same one if nothing is.
func addition(s string, at int) (n, next int, e api.Errno) {
	if !stands(s, at, "+-") {
		return number(s, at) // With nothing ahead of them such digits would be the base.
	}
	n, next, e = number(s, at+1)
	if next == at+1 {
		n = 1
	}
	if s[at] == '-' {
		n = -n
	}
	return n, next, e
}

// number is what the digits that stand at a place say, and the place behind them; 0, and the same one, if there are none.
func number(s string, at int) (n, next int, e api.Errno) {
	next = at
	for next < len(s) && isDigit(s[next]) {
		n = 10*n + int(s[next]-'0')
		next++
	}
	if next-at > mostDigits {
		return 0, 0, api.ErrAddress
	}
	return n, next, api.OK
}

// afterBlanks is the first place from one on where no blank stands.
func afterBlanks(s string, at int) int {
	for stands(s, at, " \t") {
		at++
	}
	return at
}

// stands tells whether one of some bytes stands at a place.
func stands(s string, at int, bytes string) bool {
	return at < len(s) && strings.IndexByte(bytes, s[at]) >= 0
}

func isDigit(b byte) bool { return b >= '0' && b <= '9' }
