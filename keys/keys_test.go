package keys

import (
	"strconv"
	"strings"
	"testing"

	"inkhorn/api"
)

// What the document's lists have: motions, of which some have a letter, and the commands' other names.
const (
	simpleMotions   = "hjkl0^$wbeWBEG;,nN+-|"
	letteredMotions = "fFtT'"
	simpleNames     = "iIaAoORxXDCYpPJ~u.:/?\x0c"
	letteredNames   = "rm"
	operatorNames   = "dcy<>"
	registers       = "abcdefghijklmnopqrstuvwxyzABCDEFGHIJKLMNOPQRSTUVWXYZ123456789"
)

// likes is which byte is another one's like.
var likes = map[byte]byte{32: 'l', 8: 'h', 10: 'j', 13: '+'}

// text is the text of one byte.
func text(c byte) string { return string([]byte{c}) }

// bytesBut is all bytes but some, each as a text.
func bytesBut(some string) []string {
	var all []string
	for b := range 256 {
		if strings.IndexByte(some, byte(b)) < 0 {
			all = append(all, text(byte(b)))
		}
	}
	return all
}

// each is a text's bytes, each as a text.
func each(some string) []string { return strings.Split(some, "") }

func checkParse(t *testing.T, s string, want api.Key, used, what int) {
	t.Helper()
	if k, n, w := Parse(s); k != want || n != used || w != what {
		t.Errorf("Parse(%.60q): %+v, %d, %d, not %+v, %d, %d", s, k, n, w, want, used, what)
	}
}

// checkWhole is for texts that are a command, and nothing else: each beginning is More, and nothing behind it makes a difference.
func checkWhole(t *testing.T, s string, want api.Key) {
	t.Helper()
	checkParse(t, s, want, len(s), Whole)
	for _, behind := range []string{s, "0", "9", "d", "\"", "\x1b", "\x00", "\xff", strings.Repeat("x", 1000)} {
		checkParse(t, s+behind, want, len(s), Whole)
	}
	for i := range s {
		checkMore(t, s[:i])
	}
}

func checkMore(t *testing.T, s string) {
	t.Helper()
	checkParse(t, s, api.Key{}, 0, More)
}

// checkBad is for texts whose last byte may not stand there: what is behind it makes no difference.
func checkBad(t *testing.T, s string) {
	t.Helper()
	checkParse(t, s, api.Key{}, len(s), Bad)
	for _, behind := range []string{s, "x", "0", "dd", "\x00"} {
		checkParse(t, s+behind, api.Key{}, len(s), Bad)
	}
	for i := range s {
		checkMore(t, s[:i])
	}
}

func TestExamples(t *testing.T) {
	checkParse(t, "3x", api.Key{Name: 'x', Count: 3}, 2, Whole)
	checkParse(t, "d", api.Key{}, 0, More)
	checkParse(t, "d2w", api.Key{Name: 'd', Motion: 'w', Count: 2}, 3, Whole)
	checkParse(t, "2d3j", api.Key{Name: 'd', Motion: 'j', Count: 6}, 4, Whole)
	checkParse(t, `"add`, api.Key{Name: 'd', Motion: 'd', Reg: 'a'}, 4, Whole)
	checkParse(t, "fx", api.Key{Name: 'f', Letter: 'x'}, 2, Whole)
	checkParse(t, "f", api.Key{}, 0, More)
	checkParse(t, `"!`, api.Key{}, 2, Bad)
	checkParse(t, "0", api.Key{Name: '0'}, 1, Whole)
	checkParse(t, "10G", api.Key{Name: 'G', Count: 10}, 3, Whole)
	checkParse(t, "00", api.Key{Name: '0'}, 1, Whole)
	checkParse(t, "q", api.Key{}, 1, Bad)
	checkParse(t, "dq", api.Key{}, 2, Bad)
	checkParse(t, "12345x", api.Key{}, 5, Bad)
	checkParse(t, "\r", api.Key{Name: '+'}, 1, Whole)
}

// The numbers by which the kinds are told.
func TestKinds(t *testing.T) {
	if More != 0 || Whole != 1 || Bad != 2 {
		t.Error(More, Whole, Bad)
	}
}

// P26.2: all bytes. One that is a motion's like has another name.
func TestMotion(t *testing.T) {
	for b := range 256 {
		c := byte(b)
		want := strings.IndexByte(simpleMotions+letteredMotions, c) >= 0
		if Motion(c) != want {
			t.Errorf("Motion(%q): %v", c, !want)
		}
	}
}

// P26.1: nothing is there yet.
func TestNothing(t *testing.T) { checkMore(t, "") }

// P26.1: all bytes as the first one, behind a register, a count, or both.
func TestNames(t *testing.T) {
	for _, c := range each(simpleMotions + simpleNames) {
		if c != "0" {
			checkWhole(t, "12"+c, api.Key{Name: c[0], Count: 12})
			checkWhole(t, `"B7`+c, api.Key{Name: c[0], Reg: 'B', Count: 7})
		}
		checkWhole(t, c, api.Key{Name: c[0]})
		checkWhole(t, `"b`+c, api.Key{Name: c[0], Reg: 'b'})
	}
	for c, like := range likes {
		checkWhole(t, text(c), api.Key{Name: like})
		checkWhole(t, `"9`+text(c), api.Key{Name: like, Reg: '9'})
		checkWhole(t, "3"+text(c), api.Key{Name: like, Count: 3})
	}
	some := simpleMotions + letteredMotions + simpleNames + letteredNames + operatorNames + " \x08\n\r0123456789"
	for _, c := range bytesBut(some + `"`) {
		checkBad(t, c)
		checkBad(t, `"a`+c)
		checkBad(t, "5"+c)
		checkBad(t, `"15`+c)
	}
	checkBad(t, `3"`) // a register stands ahead of a count, and once
	checkBad(t, `"a"`)
	checkBad(t, `"a3"`)
}

// P26.1: all bytes as a register's letter.
func TestRegisters(t *testing.T) {
	checkMore(t, `"`)
	for _, c := range each(registers) {
		checkMore(t, `"`+c)
		checkWhole(t, `"`+c+"p", api.Key{Name: 'p', Reg: c[0]})
		checkWhole(t, `"`+c+"2y3w", api.Key{Name: 'y', Motion: 'w', Reg: c[0], Count: 6})
	}
	for _, c := range bytesBut(registers) {
		checkBad(t, `"`+c)
	}
}

// P26.1: counts of a command, all there are.
func TestCounts(t *testing.T) {
	for n := 1; n <= api.MaxCount; n++ {
		s := strconv.Itoa(n)
		checkMore(t, s)
		checkParse(t, s+"x", api.Key{Name: 'x', Count: n}, len(s)+1, Whole)
		checkParse(t, `"z`+s+"l", api.Key{Name: 'l', Reg: 'z', Count: n}, len(s)+3, Whole)
		checkParse(t, s+"rx", api.Key{Name: 'r', Letter: 'x', Count: n}, len(s)+2, Whole)
	}
	checkWhole(t, "9999j", api.Key{Name: 'j', Count: 9999})
	checkWhole(t, "1000j", api.Key{Name: 'j', Count: 1000})
	for _, s := range []string{"10000", "99990", "99999", "12345", "10009"} {
		checkBad(t, s)
		checkBad(t, `"A`+s)
		checkBad(t, "d"+s)
		checkBad(t, `"A9<`+s)
	}
}

// P26.1: a 0 that no digit is ahead of is a motion, and none of a count's digits.
func TestZeros(t *testing.T) {
	checkWhole(t, "0", api.Key{Name: '0'})
	checkWhole(t, `"a0`, api.Key{Name: '0', Reg: 'a'})
	checkParse(t, "01x", api.Key{Name: '0'}, 1, Whole)
	for _, c := range each(operatorNames) {
		checkWhole(t, c+"0", api.Key{Name: c[0], Motion: '0'})
		checkWhole(t, "20"+c+"0", api.Key{Name: c[0], Motion: '0', Count: 20})
		checkWhole(t, c+"20j", api.Key{Name: c[0], Motion: 'j', Count: 20})
	}
	checkWhole(t, "f0", api.Key{Name: 'f', Letter: '0'})
	checkWhole(t, "d100f0", api.Key{Name: 'd', Motion: 'f', Letter: '0', Count: 100})
}

// P26.1: an operator's count is both, one times the other, or the one that is there.
func TestCountsOfOperators(t *testing.T) {
	counts := []int{0, 1, 2, 3, 9, 10, 99, 100, 101, 999, 1000, 1111, 5000, 9998, 9999}
	digits := func(n int) string {
		if n == 0 {
			return ""
		}
		return strconv.Itoa(n)
	}
	for _, first := range counts {
		for _, second := range counts {
			count := min(first*second, api.MaxCount)
			if first == 0 || second == 0 {
				count = first + second
			}
			for _, c := range each(operatorNames) {
				s := digits(first) + c + digits(second)
				checkMore(t, s)
				checkWhole(t, s+c, api.Key{Name: c[0], Motion: c[0], Count: count})
				checkWhole(t, s+"w", api.Key{Name: c[0], Motion: 'w', Count: count})
				checkWhole(t, `"q`+s+"tx", api.Key{Name: c[0], Motion: 't', Letter: 'x', Reg: 'q', Count: count})
			}
		}
	}
	checkWhole(t, "99d101w", api.Key{Name: 'd', Motion: 'w', Count: 9999}) // just as many as may be
	checkWhole(t, "100d100w", api.Key{Name: 'd', Motion: 'w', Count: 9999})
}

// P26.1: all bytes as a letter, each of which is itself.
func TestLetters(t *testing.T) {
	for _, name := range each(letteredMotions + letteredNames) {
		checkMore(t, name)
		checkMore(t, `"a2`+name)
		for _, c := range bytesBut("") {
			checkWhole(t, name+c, api.Key{Name: name[0], Letter: c[0]})
			checkWhole(t, `"a2`+name+c, api.Key{Name: name[0], Reg: 'a', Count: 2, Letter: c[0]})
		}
	}
	for _, operator := range each(operatorNames) {
		for _, motion := range each(letteredMotions) {
			checkMore(t, operator+motion)
			for _, c := range bytesBut("") {
				checkWhole(t, operator+motion+c, api.Key{Name: operator[0], Motion: motion[0], Letter: c[0]})
				checkWhole(t, "2"+operator+"2"+motion+c, api.Key{Name: operator[0], Motion: motion[0], Count: 4, Letter: c[0]})
			}
		}
	}
}

// P26.1: all bytes as what an operator does something to.
func TestOperators(t *testing.T) {
	for _, operator := range each(operatorNames) {
		checkMore(t, operator)
		checkMore(t, `"x3`+operator+"1")
		for _, c := range each(simpleMotions + operator) {
			checkWhole(t, operator+c, api.Key{Name: operator[0], Motion: c[0]})
			checkWhole(t, `"x3`+operator+c, api.Key{Name: operator[0], Motion: c[0], Reg: 'x', Count: 3})
			if c != "0" {
				checkWhole(t, operator+"12"+c, api.Key{Name: operator[0], Motion: c[0], Count: 12})
			}
		}
		for c, like := range likes {
			checkWhole(t, operator+text(c), api.Key{Name: operator[0], Motion: like})
			checkWhole(t, "2"+operator+"3"+text(c), api.Key{Name: operator[0], Motion: like, Count: 6})
		}
		for _, c := range bytesBut(simpleMotions + letteredMotions + operator + " \x08\n\r123456789") {
			checkBad(t, operator+c) // other operators, quotation marks, and names of commands that are no motions among them
			checkBad(t, operator+"3"+strings.ReplaceAll(c, "0", "q"))
			checkBad(t, `"c4`+operator+c)
		}
	}
}

// P26.3: what is behind a command makes no difference to it, whatever it is.
func TestWhatIsBehind(t *testing.T) {
	for s, want := range map[string]api.Key{
		"x": {Name: 'x'}, "0": {Name: '0'}, `"a2dd`: {Name: 'd', Motion: 'd', Reg: 'a', Count: 2}, "fx": {Name: 'f', Letter: 'x'},
		"3d2'a": {Name: 'd', Motion: '\'', Letter: 'a', Count: 6}, "rr": {Name: 'r', Letter: 'r'}, ":": {Name: ':'}, "d0": {Name: 'd', Motion: '0'},
	} {
		for _, c := range bytesBut("") {
			for _, behind := range []string{c, c + c, c + s, s + c} {
				checkParse(t, s+behind, want, len(s), Whole)
			}
		}
	}
}

// R1: great texts.
func TestGreatTexts(t *testing.T) {
	const many = 1000000
	checkParse(t, strings.Repeat("0", many), api.Key{Name: '0'}, 1, Whole)
	checkParse(t, strings.Repeat("9", many), api.Key{}, 5, Bad)
	checkParse(t, "1"+strings.Repeat("0", many), api.Key{}, 5, Bad)
	checkParse(t, strings.Repeat(`"`, many), api.Key{}, 2, Bad)
	checkParse(t, `"a`+strings.Repeat("9", many), api.Key{}, 7, Bad)
	checkParse(t, strings.Repeat("d", many), api.Key{Name: 'd', Motion: 'd'}, 2, Whole)
	checkParse(t, strings.Repeat("d9", many), api.Key{Name: 'd', Motion: 'd', Count: 9}, 3, Whole)
	checkParse(t, strings.Repeat("\x00", many), api.Key{}, 1, Bad)
	checkParse(t, strings.Repeat("f", many), api.Key{Name: 'f', Letter: 'f'}, 2, Whole)
}
