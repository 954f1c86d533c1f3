package classes

import (
	"strings"
	"testing"

	"inkhorn/api"
	"inkhorn/samples"
)

// plainPart is the bytes of the part that begins at a place, as the document's words say it, and how long it is: 0, if there is none.
func plainPart(s string, at int) (bytes string, size int) {
	begins := func(i int, with ...string) bool {
		for _, w := range with {
			if i+len(w) <= len(s) && s[i:i+len(w)] == w {
				return true
			}
		}
		return false
	}
	if begins(at, "[:") {
		for name, bytes := range classBytes {
			if begins(at, "[:"+name+":]") {
				return bytes, len(name) + 4
			}
		}
		return "", 0
	}
	if begins(at, "[.", "[=") {
		return "", 0
	}
	if at+3 <= len(s) && begins(at+1, "-") && !begins(at+2, "]") {
		if s[at] > s[at+2] || begins(at+2, "[:", "[.", "[=") {
			return "", 0
		}
		return members(from(int(s[at]), int(s[at+2]))), 3
	}
	if at < len(s) {
		return s[at : at+1], 1
	}
	return "", 0
}

// plainParse is the set of the expression that a text is to begin with, and its end: 0, if there is none.
func plainParse(s string) (set [256]bool, end int) {
	if !strings.HasPrefix(s, "[") {
		return set, 0
	}
	first := 1
	if strings.HasPrefix(s, "[^") {
		first = 2
	}
	all := ""
	for i := first; ; {
		if i > first && i < len(s) && s[i] == ']' {
			set, end = setOf(all), i+1
			break
		}
		bytes, size := plainPart(s, i)
		if size == 0 {
			return set, 0
		}
		all += bytes
		i += size
	}
	if first == 2 {
		set = allBut(set)
	}
	return set, end
}

// checkPlain tells where a text is read otherwise than the document says.
func checkPlain(t *testing.T, s string) {
	t.Helper()
	want, end := plainParse(s)
	if end == 0 {
		checkNone(t, s, 0)
	} else {
		checkSet(t, s, 0, end, want)
	}
}

// checkBoth tells where what is behind a [ is read otherwise than the document says, or otherwise than with a ^ there (P8.3).
func checkBoth(t *testing.T, inside string) {
	t.Helper()
	checkPlain(t, "["+inside)
	checkPlain(t, "[^"+inside)
	if strings.HasPrefix(inside, "^") {
		return
	}
	set, next, e := Parse("["+inside, 0)
	but, nextBut, eBut := Parse("[^"+inside, 0)
	if e != eBut || e == api.OK && (nextBut != next+1 || but != allBut(set)) {
		t.Errorf("behind [ and [^ %q: %s and %s, %d and %d", inside, told(set), told(but), e, eBut)
	}
}

// P8.2, P8.3: all short texts of the bytes that mean something.
func TestAllShortTexts(t *testing.T) {
	for _, inside := range samples.Texts("[]^-:.a", 5) {
		checkPlain(t, inside)
		checkBoth(t, inside)
	}
	for _, inside := range samples.Texts("[]-=", 6) {
		checkBoth(t, inside)
	}
}

// P8.2, P8.3: all short rows of what parts are made of.
func TestAllShortRows(t *testing.T) {
	for _, row := range samples.Lists([]string{"[:", ":]", "alpha", "punct", "-", "]", "[", "^", "\xff"}, 5) {
		checkBoth(t, strings.Join(row, ""))
	}
	for _, row := range samples.Lists([]string{"[:space:]", "[:xdigit:]", "]", "-", "!", "[.", "[="}, 5) {
		checkBoth(t, strings.Join(row, ""))
	}
}
