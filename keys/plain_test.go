package keys

import (
	"regexp"
	"strconv"
	"strings"
	"testing"

	"inkhorn/api"
	"inkhorn/samples"
)

// reCommand is how a command is written, each byte as a rune: a register, a count, and one of a name alone, one with a letter, and an operator with a count and what it does something to.
var reCommand = regexp.MustCompile(`(?s)^(?:"([a-zA-Z1-9]))?([1-9][0-9]{0,3})?(?:` +
	`([-hjkl0^$wbeWBEG;,nN+| \x08\n\riIaAoORxXDCYpPJ~u.:/?\x0c])|` +
	`([fFtT'rm])(.)|` +
	`([dcy<>])([1-9][0-9]{0,3})?(?:([-hjkl0^$wbeWBEG;,nN+| \x08\n\rdcy<>])|([fFtT'])(.)))$`)

// wide is a text with a rune for each byte.
func wide(s string) string {
	var b strings.Builder
	for i := range len(s) {
		b.WriteRune(rune(s[i]))
	}
	return b.String()
}

// only is the byte that is a rune, or 0 of no text.
func only(s string) byte {
	for _, r := range s {
		return byte(r)
	}
	return 0
}

// liked is the name that the first of some texts that is none empty says.
func liked(some ...string) byte {
	c := only(strings.Join(some, ""))
	if like, ok := likes[c]; ok {
		return like
	}
	return c
}

// plainCommand is the command that a text is, with nothing behind it.
func plainCommand(s string) (k api.Key, ok bool) {
	m := reCommand.FindStringSubmatch(wide(s))
	if m == nil {
		return k, false
	}
	k = api.Key{Reg: only(m[1]), Name: liked(m[3], m[4], m[6]), Motion: liked(m[8], m[9]), Letter: only(m[5] + m[10])}
	if strings.IndexByte(operatorNames, k.Motion) >= 0 && k.Motion != k.Name {
		return api.Key{}, false // another operator's letter
	}
	if m[2] != "" && k.Name == '0' || m[7] != "" && k.Motion == '0' {
		return api.Key{}, false // a count's digit
	}
	first, _ := strconv.Atoi(m[2])
	second, _ := strconv.Atoi(m[7])
	k.Count = max(first, second)
	if m[2] != "" && m[7] != "" {
		k.Count = min(first*second, api.MaxCount)
	}
	return k, true
}

// goesOn tells whether a text is a command's beginning: some text more makes it one.
func goesOn(s string) bool {
	for _, more := range []string{"x", "w", "ax"} {
		if _, ok := plainCommand(s + more); ok {
			return true
		}
	}
	return false
}

// plainParse is what a text is, by what its beginnings are.
func plainParse(s string) (k api.Key, used, what int) {
	for used = range len(s) + 1 {
		if k, ok := plainCommand(s[:used]); ok {
			return k, used, Whole
		}
		if !goesOn(s[:used]) {
			return api.Key{}, used, Bad
		}
	}
	return api.Key{}, 0, More
}

// checkPlain holds a text against the document's words, read once more, and what follows from them (P26.3).
func checkPlain(t *testing.T, s string) {
	t.Helper()
	want, used, what := plainParse(s)
	checkParse(t, s, want, used, what)
	checkParse(t, s, want, used, what)
	if what != More {
		checkParse(t, s[:used], want, used, what)
		checkParse(t, s[:used]+"0", want, used, what)
		return
	}
	for _, more := range []string{"x", "w", "ax"} {
		if _, n, what := Parse(s + more); what == Whole && n == len(s)+len(more) {
			return
		}
	}
	t.Errorf("Parse(%.60q): more, but of what", s)
}

// P26.1, P26.3: all texts of at most two bytes.
func TestParseAllBytes(t *testing.T) {
	checkPlain(t, "")
	for _, a := range bytesBut("") {
		checkPlain(t, a)
		for _, b := range bytesBut("") {
			checkPlain(t, a+b)
		}
	}
}

// P26.1, P26.3: all bytes behind each beginning, and behind what comes then.
func TestParseAllBytesBehind(t *testing.T) {
	for _, ahead := range []string{`"a`, `"Z`, `"3`, "1", "99", "9999", "999", "d", "<", "2y", "c2", "3>4", "d1000", "df", "y2'", `"bd`, `"b2d3`, "r", "m", "2f", `"r12t`} {
		for _, a := range bytesBut("") {
			checkPlain(t, ahead+a)
			for _, b := range each("x0\"d9f \n\x1b\xff") {
				checkPlain(t, ahead+a+b)
			}
		}
	}
}

// P26.1, P26.3: all short texts of what registers, counts and names are made of.
func TestParseAllShort(t *testing.T) {
	for _, alphabet := range []string{"\"a1d0f w", "d2c9x0\r", "\"Zr>5'\x00", "<>y1\n\x08G", "\"91fTq,"} {
		for _, s := range samples.Texts(alphabet, 6) {
			checkPlain(t, s)
		}
	}
}

// P26.1: all short texts of digits and what they stand beside.
func TestCountsAllShort(t *testing.T) {
	for _, s := range samples.Texts("019dw", 8) {
		checkPlain(t, s)
	}
}

// P26.1, P26.3: rows of commands that are drawn, cut anywhere, read one behind the other.
func TestParseDrawn(t *testing.T) {
	words := []string{
		`"a`, `"Q`, `"7`, `"0`, `"`, "1", "12", "0", "30", "9999", "99999", "999", "100", "d", "c", "y", "<", ">", "dd", "yy", "<<", ">>", "cw", "f", "Fx", "t ", "T\n", "'", "'a", "r", "m",
		"h", "j", "k", "l", "^", "$", "w", "b", "e", "W", "B", "E", "G", ";", ",", "n", "N", "+", "-", "|", " ", "\x08", "\n", "\r", "\x0c", "i", "I", "a", "A", "o", "O", "R", "x", "X", "D", "C", "Y",
		"p", "P", "J", "~", "u", ".", ":", "/", "?", "q", "\x1b", "\x00", "\xff", "\xc3\xa9", "!", "z", "@", "g",
	}
	d := draw(26)
	for range 50000 {
		var b strings.Builder
		for range 1 + d.below(12) {
			b.WriteString(words[d.below(len(words))])
		}
		s := b.String()
		for s = s[:d.below(len(s)+1)]; s != ""; {
			checkPlain(t, s)
			_, used, what := Parse(s)
			if what == More {
				break
			}
			if used < 1 || used > len(s) {
				t.Fatalf("Parse(%q): %d bytes", s, used)
			}
			s = s[used:]
		}
	}
}

// draw is a row of numbers that is the same in each run.
type draw uint64

// below is the next one, from 0 up to n - 1.
func (d *draw) below(n int) int {
	*d = *d*6364136223846793005 + 1442695040888963407
	return int(uint64(*d)>>33) % n
}
