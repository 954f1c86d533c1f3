package templates

import (
	"math"
	"strings"
	"testing"

	"inkhorn/api"
	"inkhorn/samples"
)

// parsed is a replacement.
func parsed(t *testing.T, repl string) *Tpl {
	t.Helper()
	r, e := Parse(repl)
	if r == nil || e != api.OK {
		t.Fatalf("%.60q: %v %v", repl, r, e)
	}
	return r
}

// check holds an expansion against what it is to be.
func check(t *testing.T, repl, s string, spans [10][2]int, want string) {
	t.Helper()
	if got := Expand(parsed(t, repl), s, spans); got != want {
		t.Errorf("%.60q of %.60q, %v: %.60q, not %.60q", repl, s, spans, got, want)
	}
}

// checkMost holds the greatest number of a group against what it is to be.
func checkMost(t *testing.T, repl string, want int) {
	t.Helper()
	if got := Most(parsed(t, repl)); got != want {
		t.Errorf("%.60q: %d, not %d", repl, got, want)
	}
}

// spansOf is spans of which the first are given, and the others are of no group.
func spansOf(first ...[2]int) (spans [10][2]int) {
	for n := range spans {
		spans[n] = [2]int{-1, -1}
	}
	copy(spans[:], first)
	return spans
}

// digits is a text of which stretch n is the digit n.
const digits = "0123456789"

// ofDigits is these stretches.
func ofDigits() (spans [10][2]int) {
	for n := range spans {
		spans[n] = [2]int{n, n + 1}
	}
	return spans
}

func TestExamples(t *testing.T) {
	spans := spansOf([2]int{1, 3}, [2]int{2, 3})
	check(t, "x&y", "abcd", spans, "xbcy")
	check(t, `\1\1`, "abcd", spans, "cc")
	check(t, `\2`, "abcd", spans, "")
	check(t, `\&\\`, "abcd", spans, `&\`)
	check(t, `a\nb`, "abcd", spans, "a\nb")
	check(t, "a\\\nb", "abcd", spans, "a\nb")
	check(t, `\q`, "abcd", spans, "q")
	if r, e := Parse(`a\`); r != nil || e != api.ErrRepl {
		t.Error(r, e)
	}
}

// P11.1: a backslash behind which nothing stands; one that has another ahead is that byte.
func TestParseEnds(t *testing.T) {
	for _, head := range []string{"", "a", "&", `\1`, `\n`, `\&`, "\n", "\\\n", "a&b", "\x00", "\xff", strings.Repeat("a", 5000)} {
		for n := range 9 {
			s := head + strings.Repeat(`\`, n)
			r, e := Parse(s)
			if n%2 == 1 {
				if r != nil || e != api.ErrRepl {
					t.Errorf("%.60q: %v %v", s, r, e)
				}
				continue
			}
			if r == nil || e != api.OK {
				t.Errorf("%.60q: %v %v", s, r, e)
			}
		}
	}
}

// P11.1, P11.2: each byte alone, behind a backslash, and behind two.
func TestBytes(t *testing.T) {
	for b := range 256 {
		s := string([]byte{byte(b)})
		plain, escaped, most := s, s, 0
		switch {
		case b == '&':
			plain = "0"
		case b == 'n':
			escaped = "\n"
		case '1' <= b && b <= '9':
			most = b - '0'
		}
		check(t, `\`+s, digits, ofDigits(), escaped)
		checkMost(t, `\`+s, most)
		check(t, `<\`+s+`>`, digits, ofDigits(), "<"+escaped+">")
		if b == '\\' {
			continue // These are no replacements: TestParseEnds.
		}
		check(t, s, digits, ofDigits(), plain)
		check(t, "<"+s+">", digits, ofDigits(), "<"+plain+">")
		check(t, `\\`+s, digits, ofDigits(), `\`+plain)
		checkMost(t, s, 0)
		checkMost(t, `\\`+s, 0)
	}
}

// P11.2: the greatest number, wherever it stands.
func TestMost(t *testing.T) {
	checkMost(t, "", 0)
	checkMost(t, "&", 0)
	checkMost(t, "9", 0)
	checkMost(t, `\0`, 0)
	checkMost(t, `\\9`, 0)
	checkMost(t, `\\\9`, 9)
	checkMost(t, `\1\9\2`, 9)
	checkMost(t, `\9\1`, 9)
	checkMost(t, `\1\3`, 3)
	checkMost(t, `a\2b&c\1\n`, 2)
	checkMost(t, `\12`, 1)
	for a := 1; a <= 9; a++ {
		for b := 1; b <= 9; b++ {
			checkMost(t, `x\`+digits[a:a+1]+`&\`+digits[b:b+1]+`y`, max(a, b))
		}
	}
}

// P11.2: each group has its own stretch, and each stretch stands as often as it is asked for.
func TestGroups(t *testing.T) {
	check(t, `&\1\2\3\4\5\6\7\8\9`, digits, ofDigits(), digits)
	check(t, `\9\8\7\6\5\4\3\2\1&`, digits, ofDigits(), "9876543210")
	check(t, `&&\1\1&`, digits, ofDigits(), "00110")
	check(t, `\12`, digits, ofDigits(), "12")
	check(t, `\0`, digits, ofDigits(), "0")
	check(t, `\0`, "abc", spansOf([2]int{0, 3}), "0") // the digit, not the match
	check(t, `[&|\1|\2]`, "abc", spansOf([2]int{0, 3}, [2]int{1, 1}, [2]int{2, 3}), "[abc||c]")
	check(t, "&", `&\1\n`, spansOf([2]int{0, 5}), `&\1\n`) // what matched says nothing
	check(t, `\1&`, "a\nb\xff\x00", spansOf([2]int{0, 5}, [2]int{3, 5}), "\xff\x00a\nb\xff\x00")
}

// P11.2: a stretch that is none is nothing: of each number, for all places near the text's, and far ones.
func TestStretches(t *testing.T) {
	places := []int{math.MinInt, math.MinInt + 1, -4, -2, -1, 0, 1, 2, 3, 4, 5, math.MaxInt - 1, math.MaxInt}
	for _, s := range []string{"", "a", "abc"} {
		for _, from := range places {
			for _, upTo := range places {
				want := ""
				if 0 <= from && from <= upTo && upTo <= len(s) {
					want = s[from:upTo]
				}
				var spans [10][2]int
				spans[0] = [2]int{from, upTo}
				check(t, "<&>", s, spans, "<"+want+">")
				for n := 1; n <= 9; n++ {
					spans = [10][2]int{}
					spans[n] = [2]int{from, upTo}
					check(t, `<\`+digits[n:n+1]+`>`, s, spans, "<"+want+">")
				}
			}
		}
	}
}

// P11.2, R3: replacements that are none.
func TestNone(t *testing.T) {
	for _, r := range []*Tpl{nil, new(Tpl)} {
		if n := Most(r); n != 0 {
			t.Error(n)
		}
		for _, spans := range [][10][2]int{{}, spansOf(), ofDigits()} {
			if got := Expand(r, digits, spans); got != "" {
				t.Errorf("%q", got)
			}
		}
	}
}

// P11.1, P11.2: the empty replacement is one, and takes away what matched.
func TestEmpty(t *testing.T) {
	check(t, "", digits, ofDigits(), "")
	check(t, "", "", spansOf([2]int{0, 0}), "")
	checkMost(t, "", 0)
}

// R2: what was read ahead, or is read behind, is of no weight.
func TestApart(t *testing.T) {
	a, b := parsed(t, `a&\1`), parsed(t, `b\2\9`)
	if _, e := Parse(`\3\`); e != api.ErrRepl {
		t.Error(e)
	}
	for range 3 {
		if got := Expand(a, digits, ofDigits()) + Expand(b, digits, ofDigits()); got != "a01b29" || Most(a) != 1 || Most(b) != 9 {
			t.Errorf("%q %d %d", got, Most(a), Most(b))
		}
		if got := Expand(a, "xyz", spansOf([2]int{1, 2})); got != "ay" {
			t.Errorf("%q", got)
		}
	}
}

// P11.3: a text each byte of which has a backslash ahead where it would say something.
func TestEscaped(t *testing.T) {
	escape := strings.NewReplacer(`&`, `\&`, `\`, `\\`)
	long := strings.Repeat(`a&\n\1`+"\n\xff", 1000)
	for _, s := range append(samples.Texts("&\\n1\n", 5), digits, long) {
		for _, spans := range [][10][2]int{{}, spansOf(), ofDigits(), spansOf([2]int{0, 3}, [2]int{1, 2})} {
			check(t, escape.Replace(s), digits, spans, s)
		}
		checkMost(t, escape.Replace(s), 0)
	}
	all := make([]byte, 256)
	for b := range all {
		all[b] = byte(b)
	}
	check(t, escape.Replace(string(all)), digits, ofDigits(), string(all))
}

// R1: long replacements, and long expansions.
func TestLong(t *testing.T) {
	const n = 1 << 20
	check(t, strings.Repeat("x", n), digits, ofDigits(), strings.Repeat("x", n))
	check(t, strings.Repeat(`\`, n), digits, ofDigits(), strings.Repeat(`\`, n/2))
	check(t, strings.Repeat(`&\1`, n/4), digits, ofDigits(), strings.Repeat("01", n/4))
	check(t, strings.Repeat(`&`, 1000), strings.Repeat("y", 1000), spansOf([2]int{0, 1000}), strings.Repeat("y", 1000*1000))
	checkMost(t, strings.Repeat(`\3`, n)+`\7`+strings.Repeat(`\4`, n), 7)
	if r, e := Parse(strings.Repeat("x&", n) + `\`); r != nil || e != api.ErrRepl {
		t.Error(r, e)
	}
}
