package cmds

import (
	"regexp"
	"strconv"
	"strings"
	"testing"

	"inkhorn/addr"
	"inkhorn/api"
	"inkhorn/bre"
	"inkhorn/samples"
	"inkhorn/templates"
)

// How the commands are written behind which neither patterns nor addresses stand.
var (
	reSuffixed = regexp.MustCompile(`^([acidjlnpu=><])([pln]?)$`)
	reMark     = regexp.MustCompile(`^k[ \t]*([a-z])([pln]?)$`)
	reRegister = regexp.MustCompile(`^(ya|pu)(?:[ \t]*([a-zA-Z])([pln]?))?$`)
	reDigits   = regexp.MustCompile(`^z([0-9]{0,4})$`)
	reAlone    = regexp.MustCompile(`^([hqQ])$`)
	rePrint    = regexp.MustCompile(`^[pln]?$`)
	reAsks     = regexp.MustCompile(`(?s)^(?:|[ \t]+([^ \t!][^ \t]*)?)$`)
	reName     = regexp.MustCompile(`^(ya|pu|[acidjlnpu=><kmtsgvzhqQeEfrwW])`)
	reFlag     = regexp.MustCompile(`^(?:(g)|([pln])|(0*(?:[1-9][0-9]{0,3})?))`)
)

// first is the first byte of a text, or 0.
func first(s string) byte {
	return (s + "\x00")[0]
}

// plainAsks is which name a text asks for, by how it is written.
func plainAsks(s string) (string, api.Errno) {
	if m := reAsks.FindStringSubmatch(s); m != nil {
		return m[1], api.OK
	}
	if s[0] != ' ' && s[0] != '\t' {
		return "", api.ErrSuffix
	}
	return "", api.ErrCommand
}

// plainFlags lays an s's flags into it; false: these are none.
func plainFlags(x *api.Cmd, s string) bool {
	seen := [3]int{}
	x.Nth = 1
	for s != "" {
		m := reFlag.FindStringSubmatch(s)
		switch {
		case m[0] == "":
			return false
		case m[1] != "":
			seen[0]++
			x.All = true
		case m[2] != "":
			seen[1]++
			x.Print = m[2][0]
		default:
			seen[2]++
			x.Nth, _ = strconv.Atoi(m[3])
		}
		s = s[len(m[0]):]
	}
	return max(seen[0], seen[1], seen[2]) <= 1 && x.Nth >= 1
}

// plainPattern tells whether what stands behind an s, a g or a v begins with a delimiter, and is no wrong pattern.
func plainPattern(s string) (re string, next int, closed, ok bool) {
	if s == "" || s[0] == ' ' || s[0] == '\\' {
		return "", 0, false, false
	}
	re, next, closed = addr.Delimited(s, 1, s[0])
	if _, e := bre.Parse(re); re != "" && e != api.OK {
		return "", 0, false, false
	}
	return re, next, closed, true
}

// plainSubstitution is the s that stands behind its letter.
func plainSubstitution(s string) (api.Cmd, api.Errno) {
	re, at, closed, ok := plainPattern(s)
	if !ok || !closed {
		return api.Cmd{}, api.ErrPattern
	}
	repl, next, closed := addr.Delimited(s, at, s[0])
	t, e := templates.Parse(repl)
	if e != api.OK {
		return api.Cmd{}, api.ErrRepl
	}
	if r, _ := bre.Parse(re); re != "" && templates.Most(t) > bre.Groups(r) {
		return api.Cmd{}, api.ErrRepl
	}
	x := api.Cmd{Name: 's', Re: re, Repl: repl, Nth: 1}
	if !closed {
		x.Print = 'p'
		return x, api.OK
	}
	if !plainFlags(&x, s[next:]) {
		return api.Cmd{}, api.ErrSuffix
	}
	return x, api.OK
}

// plainGlobal is the g or v that stands behind its letter.
func plainGlobal(name byte, s string) (api.Cmd, api.Errno) {
	re, next, _, ok := plainPattern(s)
	if !ok {
		return api.Cmd{}, api.ErrPattern
	}
	sub := s[next:]
	if strings.Count(sub, " ")+strings.Count(sub, "\t") == len(sub) {
		sub = "p"
	}
	return api.Cmd{Name: name, Re: re, Sub: sub}, api.OK
}

// plainDestination is the m or t that stands behind its letter.
func plainDestination(name byte, s string) (api.Cmd, api.Errno) {
	a, next, e := addr.One(s)
	switch {
	case e != api.OK:
		return api.Cmd{}, e
	case !rePrint.MatchString(s[next:]):
		return api.Cmd{}, api.ErrSuffix
	}
	return api.Cmd{Name: name, Dest: a, Print: first(s[next:])}, api.OK
}

// plainSimple is the command that a text says, where neither pattern nor address nor file's name stands in it.
func plainSimple(s string) (api.Cmd, api.Errno) {
	if m := reRegister.FindStringSubmatch(s); m != nil {
		return api.Cmd{Name: map[string]byte{"ya": 'Y', "pu": 'P'}[m[1]], Letter: first(m[2]), Print: first(m[3])}, api.OK
	}
	if m := reSuffixed.FindStringSubmatch(s); m != nil {
		return api.Cmd{Name: m[1][0], Print: first(m[2])}, api.OK
	}
	if m := reMark.FindStringSubmatch(s); m != nil {
		return api.Cmd{Name: 'k', Letter: m[1][0], Print: first(m[2])}, api.OK
	}
	if m := reDigits.FindStringSubmatch(s); m != nil {
		return api.Cmd{Name: 'z', Name2: m[1]}, api.OK
	}
	if m := reAlone.FindStringSubmatch(s); m != nil {
		return api.Cmd{Name: m[1][0]}, api.OK
	}
	return api.Cmd{}, api.ErrSuffix
}

// plainNamed is the command that a text says, without a range and the blanks behind it.
func plainNamed(s string) (api.Cmd, api.Errno) {
	name := reName.FindString(s)
	if s == "" {
		return api.Cmd{}, api.OK
	}
	switch behind := s[len(name):]; name {
	case "":
		return api.Cmd{}, api.ErrCommand
	case "s":
		return plainSubstitution(behind)
	case "g", "v":
		return plainGlobal(name[0], behind)
	case "m", "t":
		return plainDestination(name[0], behind)
	case "e", "E", "f", "r", "w", "W":
		file, e := plainAsks(behind)
		if e != api.OK {
			return api.Cmd{}, e
		}
		return api.Cmd{Name: name[0], Name2: file}, api.OK
	}
	return plainSimple(s)
}

// plainParse is the command that a line says, by how commands are written.
func plainParse(line string) (api.Cmd, api.Errno) {
	r, next, e := addr.Parse(line)
	if e != api.OK {
		return api.Cmd{}, e
	}
	behind := line[next:]
	for behind != "" && (behind[0] == ' ' || behind[0] == '\t') {
		behind = behind[1:]
	}
	x, e := plainNamed(behind)
	if e == api.OK {
		x.Range = r
	}
	return x, e
}

// checkPlain holds a line against the document's words, read once more (P21.3), and what must be of an s.
func checkPlain(t *testing.T, line string) {
	t.Helper()
	want, e := plainParse(line)
	checkParse(t, line, want, e)
	checkParse(t, line, want, e)
	if x, _ := Parse(line); x.Name == 's' {
		_, reErr := bre.Parse(x.Re)
		_, replErr := templates.Parse(x.Repl)
		if x.Nth < 1 || x.Re != "" && reErr != api.OK || replErr != api.OK {
			t.Errorf("Parse of %.80q: %v, %d, %d", line, x, reErr, replErr)
		}
	}
}

// P21.1, P21.3: all short lines of what begins names, delimits, and stands behind.
func TestParseAllShort(t *testing.T) {
	for _, alphabet := range []string{"py a1", "sk/g2p", "vz, d0", "mt1'a p", "puyaP\t", "ewW !x", "s/\\a1(", "=>hqQ$l"} {
		for _, line := range samples.Texts(alphabet, 6) {
			checkPlain(t, line)
		}
	}
}

// P21.1: each name ahead of all short texts, and of all bytes.
func TestNamesAndAll(t *testing.T) {
	tails := append(samples.Texts("pl a/1", 4), bytesBut("")...)
	for _, b := range bytesBut("") {
		tails = append(tails, " "+b, "/x/"+b, "/x/y/"+b, "a"+b, "1"+b)
	}
	for _, name := range append(strings.Split(names, ""), "ya", "pu") {
		for _, tail := range tails {
			checkPlain(t, name+tail)
		}
	}
}

// P21.1: an s with all short rows of flags.
func TestFlagsAllShort(t *testing.T) {
	for _, s := range samples.Texts("gpl019 ", 6) {
		checkPlain(t, "s/a/b/"+s)
	}
}

// P21.1, P21.3: patterns and replacements, all short ones, by two delimiters.
func TestSubstitutionsAllShort(t *testing.T) {
	for _, s := range samples.Texts(`/\a(&1)`, 6) {
		checkPlain(t, "s/"+s)
		checkPlain(t, "s&"+s)
		checkPlain(t, `s/\(a\)/`+s)
		checkPlain(t, "g/"+s)
	}
}

// P21.2: all short texts that may be files' names.
func TestAsksAllShort(t *testing.T) {
	for _, s := range samples.Texts(" \t!a.\n", 6) {
		want, e := plainAsks(s)
		checkAsks(t, s, want, e)
	}
}

// P21.1, P21.3: drawn lines, longer ones, out of what is read at once.
func TestParseDrawn(t *testing.T) {
	words := []string{
		"1", "23", ",", ";", "%", "$", ".", "+", "-", "'a", "'", "/a/", "?b?", " ", "\t", "p", "l", "n", "s", "g", "v", "m", "t", "k", "ya", "pu", "e", "w", "z", "q", "h",
		"/", "\\/", `\(`, `\)`, "a*", "[x]", "&", `\1`, `\2`, "\\", "b", "!", "0", "999", "12345", "A", "W", "Q", "=", "x", "\n",
	}
	d := draw(21)
	for range 200000 {
		var line strings.Builder
		for range 1 + d.below(9) {
			line.WriteString(words[d.below(len(words))])
		}
		checkPlain(t, line.String())
	}
}

// draw is a row of numbers that is the same in each run.
type draw uint64

// below is the next one, from 0 up to n - 1.
func (d *draw) below(n int) int {
	*d = *d*6364136223846793005 + 1442695040888963407
	return int(uint64(*d)>>33) % n
}
