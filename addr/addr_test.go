package addr

import (
	"math"
	"slices"
	"strings"
	"testing"

	"inkhorn/api"
)

// Addresses as they are read.
var (
	none = api.Address{}
	dot  = api.Address{Kind: api.AdDot}
	last = api.Address{Kind: api.AdLast}
)

// num is the address of a number.
func num(n int) api.Address { return api.Address{Kind: api.AdNumber, N: n} }

// mk is that of a mark.
func mk(letter byte) api.Address { return api.Address{Kind: api.AdMark, N: int(letter - 'a')} }

// fore and rear are those of a pattern.
func fore(re string) api.Address { return api.Address{Kind: api.AdNext, Re: re} }
func rear(re string) api.Address { return api.Address{Kind: api.AdPrev, Re: re} }

// plus is an address with something added.
func plus(a api.Address, add int) api.Address {
	a.Add += add
	return a
}

// row is a range, the separators of which are told by a text.
func row(by string, l ...api.Address) api.Range {
	r := api.Range{List: l}
	for i := range by {
		r.Semi = append(r.Semi, by[i] == ';')
	}
	return r
}

// five is the view of the document's examples.
func five() api.View {
	return api.View{Lines: []string{"ab", "cd", "ab", "x", "y"}, Cur: 2, Marks: api.Marks{4}}
}

func sameRange(r, q api.Range) bool {
	return slices.Equal(r.List, q.List) && slices.Equal(r.Semi, q.Semi)
}

func checkDelimited(t *testing.T, s string, at int, by byte, want string, next int, closed bool) {
	t.Helper()
	if got, n, ok := Delimited(s, at, by); got != want || n != next || ok != closed {
		t.Errorf("Delimited %.80q from %d by %q: %.80q, %d, %v, not %.80q, %d, %v", s, at, by, got, n, ok, want, next, closed)
	}
}

func checkOne(t *testing.T, s string, want api.Address, next int, e api.Errno) {
	t.Helper()
	if got, n, err := One(s); got != want || n != next || err != e {
		t.Errorf("One of %.80q: %v, %d, %d, not %v, %d, %d", s, got, n, err, want, next, e)
	}
}

func checkParse(t *testing.T, s string, want api.Range, next int, e api.Errno) {
	t.Helper()
	if got, n, err := Parse(s); !sameRange(got, want) || n != next || err != e {
		t.Errorf("Parse of %.80q: %v, %d, %d, not %v, %d, %d", s, got, n, err, want, next, e)
	}
}

func checkSearch(t *testing.T, v api.View, re string, back bool, want int, e api.Errno) {
	t.Helper()
	if got, err := Search(v, re, back); got != want || err != e {
		t.Errorf("Search of %.80q from %d, back %v, last %.80q, of %d lines: %d, %d, not %d, %d", re, v.Cur, back, v.Last, len(v.Lines), got, err, want, e)
	}
}

func checkEval(t *testing.T, v api.View, r api.Range, a, b, n int, used string, e api.Errno) {
	t.Helper()
	if c, d, m, re, err := Eval(v, r); c != a || d != b || m != n || re != used || err != e {
		t.Errorf("Eval of %v: %d, %d, %d, %.80q, %d, not %d, %d, %d, %.80q, %d", r, c, d, m, re, err, a, b, n, used, e)
	}
}

// checkLines reads a range that is all of a text, and holds the lines that it says against what is wanted.
func checkLines(t *testing.T, v api.View, s string, a, b, n int, used string, e api.Errno) {
	t.Helper()
	r, next, err := Parse(s)
	if err != api.OK || next != len(s) {
		t.Errorf("Parse of %q: %d, %d", s, next, err)
	}
	checkEval(t, v, r, a, b, n, used, e)
}

func TestExamples(t *testing.T) {
	v := five()
	checkLines(t, v, "", 0, 0, 0, "", api.OK)
	for s, want := range map[string]int{".": 2, "$-1": 4, "'a+": 5, "+": 3, "-": 1, ".+2 1": 5} {
		checkLines(t, v, s, want, want, 1, "", api.OK)
	}
	checkLines(t, v, ",", 1, 5, 2, "", api.OK)
	checkLines(t, v, ";", 2, 5, 2, "", api.OK)
	checkLines(t, v, "%", 1, 5, 2, "", api.OK)
	checkLines(t, v, "2,", 2, 2, 2, "", api.OK)
	checkLines(t, v, ",3", 1, 3, 2, "", api.OK)
	checkLines(t, v, "3;+1", 3, 4, 2, "", api.OK)
	checkLines(t, v, "/ab/", 3, 3, 1, "ab", api.OK)
	checkLines(t, v, "?ab?", 1, 1, 1, "ab", api.OK)
	v.Last = "ab"
	checkLines(t, v, "//", 3, 3, 1, "ab", api.OK)
	checkLines(t, v, "/q/", 0, 0, 0, "", api.ErrSought)
	checkLines(t, v, "'b", 0, 0, 0, "", api.ErrMark)
	checkLines(t, v, "6", 0, 0, 0, "", api.ErrAddress)
	checkLines(t, v, "4,2", 0, 0, 0, "", api.ErrAddress)
	checkLines(t, v, "1,2,3", 2, 3, 2, "ab", api.OK)
	checkOne(t, `/a\/b/`, fore("a/b"), 6, api.OK)
}

// P20.1: what stands up to the delimiter, and the backslashes in it.
func TestDelimited(t *testing.T) {
	checkDelimited(t, "ab/c/", 0, '/', "ab", 3, true)
	checkDelimited(t, "ab/c/", 3, '/', "c", 5, true)
	checkDelimited(t, "ab", 0, '/', "ab", 2, false)
	checkDelimited(t, "/", 0, '/', "", 1, true)
	checkDelimited(t, "", 0, '/', "", 0, false)
	checkDelimited(t, `a\/b/`, 0, '/', "a/b", 5, true)
	checkDelimited(t, `a\?b/`, 0, '/', `a\?b`, 5, true)
	checkDelimited(t, `a\\/b/`, 0, '/', `a\\`, 4, true)
	checkDelimited(t, `a\\\/b/`, 0, '/', `a\\/b`, 7, true)
	checkDelimited(t, `a\/`, 0, '/', "a/", 3, false)
	checkDelimited(t, `ab\`, 0, '/', `ab\`, 3, false)
	checkDelimited(t, `\`, 0, '/', `\`, 1, false)
	checkDelimited(t, `\/\/`, 1, '/', "", 2, true)
	checkDelimited(t, "a\\\nb\n/", 0, '/', "a\\\nb\n", 6, true)
	checkDelimited(t, "a\\\nb\nc", 0, '\n', "a\nb", 5, true)
	checkDelimited(t, "\\\xff\xc3\xa9\xff", 0, 0xff, "\xff\xc3\xa9", 5, true)
	checkDelimited(t, "a\\\x00\x00", 0, 0, "a\x00", 4, true)
}

// P20.1: places ahead of the text, at its end, and beyond it.
func TestDelimitedPlaces(t *testing.T) {
	for _, at := range []int{0, -1, -7, math.MinInt} {
		checkDelimited(t, "ab/c", at, '/', "ab", 3, true)
		checkDelimited(t, "abc", at, '/', "abc", 3, false)
		checkDelimited(t, "", at, '/', "", 0, false)
	}
	for _, at := range []int{4, 5, 1 << 40, math.MaxInt} {
		checkDelimited(t, "ab//", at, '/', "", at, false)
		checkDelimited(t, "", at, '/', "", at, false)
	}
}

// P20.1: a backslash that stands for itself, or for what is behind it, ends nothing, even where it is what delimits.
func TestDelimitedByBackslash(t *testing.T) {
	checkDelimited(t, `ab`, 0, '\\', "ab", 2, false)
	checkDelimited(t, `a\\b`, 0, '\\', `a\b`, 4, false)
	checkDelimited(t, `a\b`, 0, '\\', `a\b`, 3, false)
	checkDelimited(t, `a\`, 0, '\\', `a\`, 2, false)
}

// P20.1: each base, alone.
func TestOneBases(t *testing.T) {
	checkOne(t, ".", dot, 1, api.OK)
	checkOne(t, "$", last, 1, api.OK)
	checkOne(t, "0", num(0), 1, api.OK)
	checkOne(t, "17", num(17), 2, api.OK)
	checkOne(t, "007", num(7), 3, api.OK)
	for letter := byte('a'); letter <= 'z'; letter++ {
		checkOne(t, "'"+string(letter), mk(letter), 2, api.OK)
	}
	checkOne(t, "/a.b/", fore("a.b"), 5, api.OK)
	checkOne(t, "?a.b?", rear("a.b"), 5, api.OK)
	checkOne(t, "//", fore(""), 2, api.OK)
	checkOne(t, "??", rear(""), 2, api.OK)
	checkOne(t, "/", fore(""), 1, api.OK)
	checkOne(t, "?", rear(""), 1, api.OK)
	checkOne(t, "/a?b/", fore("a?b"), 5, api.OK)
	checkOne(t, "?a/b?", rear("a/b"), 5, api.OK)
	checkOne(t, `?a\?b?`, rear("a?b"), 6, api.OK)
	checkOne(t, `/a\?b/`, fore(`a\?b`), 6, api.OK)
	checkOne(t, "/a 1", fore("a 1"), 4, api.OK)
	checkOne(t, "/a\\", fore("a\\"), 3, api.OK)
	checkOne(t, `/\(/`, fore(`\(`), 4, api.OK) // whether it is a pattern is asked as it is sought
}

// P20.1: what is added, and to what.
func TestOneAdditions(t *testing.T) {
	checkOne(t, "+", plus(dot, 1), 1, api.OK)
	checkOne(t, "-", plus(dot, -1), 1, api.OK)
	checkOne(t, "+3", plus(dot, 3), 2, api.OK)
	checkOne(t, "-03", plus(dot, -3), 3, api.OK)
	checkOne(t, "+0", dot, 2, api.OK) // a base of its own, as something is there
	checkOne(t, "+-", dot, 2, api.OK)
	checkOne(t, "---", plus(dot, -3), 3, api.OK)
	checkOne(t, ".3", plus(dot, 3), 2, api.OK)
	checkOne(t, "$3", plus(last, 3), 2, api.OK)
	checkOne(t, "'a3", plus(mk('a'), 3), 3, api.OK)
	checkOne(t, "/a/3", plus(fore("a"), 3), 4, api.OK)
	checkOne(t, "?a?-", plus(rear("a"), -1), 4, api.OK)
	checkOne(t, "2 3", plus(num(2), 3), 3, api.OK)
	checkOne(t, "2+3", plus(num(2), 3), 3, api.OK)
	checkOne(t, "2+ 3", plus(num(2), 4), 4, api.OK)
	checkOne(t, "2- 3", plus(num(2), 2), 4, api.OK)
	checkOne(t, "+ 3", plus(dot, 4), 3, api.OK)
	checkOne(t, "1+2-3 4+", plus(num(1), 4), 8, api.OK)
	checkOne(t, "1 2 3 4", plus(num(1), 9), 7, api.OK)
	checkOne(t, ". \t+2\t \t1", plus(dot, 3), 9, api.OK)
}

// P20.1: blanks ahead belong to an address, those behind do not, and what else stands there ends it.
func TestOneEnds(t *testing.T) {
	checkOne(t, "", none, 0, api.OK)
	checkOne(t, "p", none, 0, api.OK)
	checkOne(t, " \t ", none, 3, api.OK)
	checkOne(t, "  p", none, 2, api.OK)
	checkOne(t, " ,", none, 1, api.OK)
	checkOne(t, "%", none, 0, api.OK)
	checkOne(t, " \t5", num(5), 3, api.OK)
	checkOne(t, " \t+", plus(dot, 1), 3, api.OK)
	checkOne(t, "5 \t", num(5), 1, api.OK)
	checkOne(t, "5+  ", plus(num(5), 1), 2, api.OK)
	checkOne(t, "5 p", num(5), 1, api.OK)
	checkOne(t, "5 , 6", num(5), 1, api.OK)
	checkOne(t, "5+1 .", plus(num(5), 1), 3, api.OK)
	checkOne(t, "..", dot, 1, api.OK)
	checkOne(t, "5 $", num(5), 1, api.OK)
	checkOne(t, "5 'A", num(5), 1, api.OK) // this ' begins no part of it
	checkOne(t, "/a/ /b/", fore("a"), 3, api.OK)
	checkOne(t, "/a//b/", fore("a"), 3, api.OK)
	checkOne(t, "\n5", none, 0, api.OK)
	checkOne(t, "5\n6", num(5), 1, api.OK)
	checkOne(t, "\v5", none, 0, api.OK)
	checkOne(t, "\xc2\xa05", none, 0, api.OK)
	checkOne(t, "\xd9\xa3", none, 0, api.OK) // a digit of other letters
}

// P20.1: all bytes ahead of an address, and behind it.
func TestOneAllBytes(t *testing.T) {
	for b := range 256 {
		c := string([]byte{byte(b)})
		checkRead(t, c)
		checkRead(t, c+"5")
		checkRead(t, "5"+c)
		checkRead(t, "5"+c+"6")
		checkRead(t, "5+"+c)
		checkRead(t, " $ "+c+"1")
		checkRead(t, "/"+c+"/1")
		checkRead(t, "?\\"+c+"?1")
	}
}

// P20.1: a ' without a letter, whatever stands behind it.
func TestOneMarks(t *testing.T) {
	checkOne(t, "'", none, 0, api.ErrAddress)
	checkOne(t, "  '", none, 0, api.ErrAddress)
	for b := range 256 {
		if b < 'a' || b > 'z' {
			checkOne(t, "'"+string([]byte{byte(b)}), none, 0, api.ErrAddress)
			checkOne(t, " '"+string([]byte{byte(b), 'a'}), none, 0, api.ErrAddress)
		}
	}
}

// P20.1: nine digits, and more, as a base and as what is added.
func TestOneDigits(t *testing.T) {
	checkOne(t, "999999999", num(999999999), 9, api.OK)
	checkOne(t, "000000001", num(1), 9, api.OK)
	checkOne(t, "+999999999", plus(dot, 999999999), 10, api.OK)
	checkOne(t, "-999999999", plus(dot, -999999999), 10, api.OK)
	checkOne(t, ".999999999", plus(dot, 999999999), 10, api.OK)
	checkOne(t, "1 999999999", plus(num(1), 999999999), 11, api.OK)
	for _, digits := range []string{"1234567890", "0000000001", "99999999999999999999", strings.Repeat("7", 10000)} {
		for _, ahead := range []string{"", " ", "+", "-", ".", "$", "$-1 ", "'a", "/a/", "1 ", "1+1 +"} {
			checkOne(t, ahead+digits, none, 0, api.ErrAddress)
			checkOne(t, ahead+digits+"p", none, 0, api.ErrAddress)
		}
	}
	checkOne(t, "/1234567890/", fore("1234567890"), 12, api.OK)
	checkOne(t, "+"+strings.Repeat("+999999999", 5000), plus(dot, 1+5000*999999999), 50001, api.OK)
	checkOne(t, strings.Repeat("-999999999 ", 5000), plus(dot, -5000*999999999), 54999, api.OK)
}

// P20.1: ranges, some of the addresses of which are not there.
func TestParse(t *testing.T) {
	checkParse(t, "1", row("", num(1)), 1, api.OK)
	checkParse(t, "1,$p", row(",", num(1), last), 3, api.OK)
	checkParse(t, "1;$p", row(";", num(1), last), 3, api.OK)
	checkParse(t, ",", row(",", none, none), 1, api.OK)
	checkParse(t, ";", row(";", none, none), 1, api.OK)
	checkParse(t, ",3", row(",", none, num(3)), 2, api.OK)
	checkParse(t, "3,", row(",", num(3), none), 2, api.OK)
	checkParse(t, "1,;+,", row(",;,", num(1), none, plus(dot, 1), none), 5, api.OK)
	checkParse(t, ",,,", row(",,,", none, none, none, none), 3, api.OK)
	checkParse(t, "/a,b/,?c;d?", row(",", fore("a,b"), rear("c;d")), 11, api.OK)
	checkParse(t, "/a,b", row("", fore("a,b")), 4, api.OK)
	checkParse(t, "'a,'b", row(",", mk('a'), mk('b')), 5, api.OK)
	checkParse(t, "1 2,3", row(",", plus(num(1), 2), num(3)), 5, api.OK)
	checkParse(t, "1,$,2", row(",,", num(1), last, num(2)), 5, api.OK)
}

// P20.1: blanks ahead of addresses, and around what stands between them.
func TestParseBlanks(t *testing.T) {
	checkParse(t, " \t1 \t, \t2 \tp", row(",", num(1), num(2)), 9, api.OK)
	checkParse(t, "1 ;p", row(";", num(1), none), 3, api.OK)
	checkParse(t, "1; p", row(";", num(1), none), 3, api.OK)
	checkParse(t, " , ", row(",", none, none), 3, api.OK)
	checkParse(t, "1 p", row("", num(1)), 1, api.OK)
	checkParse(t, "1\n,2", row("", num(1)), 1, api.OK)
}

// P20.1: all lines.
func TestParseAll(t *testing.T) {
	all := row(",", num(1), last)
	checkParse(t, "%", all, 1, api.OK)
	checkParse(t, " \t%", all, 3, api.OK)
	checkParse(t, "% ", all, 1, api.OK)
	checkParse(t, "%p", all, 1, api.OK)
	checkParse(t, "%%", all, 1, api.OK)
	checkParse(t, "%,3", all, 1, api.OK)
	checkParse(t, "%+1", all, 1, api.OK)
	checkParse(t, "%'", all, 1, api.OK)
	checkParse(t, "1%", row("", num(1)), 1, api.OK)
	checkParse(t, "1,%", row(",", num(1), none), 2, api.OK)
	checkParse(t, ",%", row(",", none, none), 1, api.OK)
}

// P20.1: no addresses are none, and not one that is not there.
func TestParseNothing(t *testing.T) {
	checkParse(t, "", api.Range{}, 0, api.OK)
	checkParse(t, "p", api.Range{}, 0, api.OK)
	checkParse(t, "\n1", api.Range{}, 0, api.OK)
	checkParse(t, " \t", api.Range{}, 2, api.OK)
	checkParse(t, "  p", api.Range{}, 2, api.OK)
	checkParse(t, "\xff,", api.Range{}, 0, api.OK)
}

// P20.1: One's error, wherever the address stands, and nothing beside it.
func TestParseErrors(t *testing.T) {
	for _, wrong := range []string{"'", "'A", "' a", "1234567890", "+1234567890", ". 1234567890", "1-1234567890"} {
		for _, ahead := range []string{"", " ", "1,", "1;", ",", ";", "1,2;3 , "} {
			for _, behind := range []string{"", ",2", ";", "\n"} {
				checkParse(t, ahead+wrong+behind, api.Range{}, 0, api.ErrAddress)
			}
		}
	}
}

// P20.1: long texts.
func TestParseLong(t *testing.T) {
	const many = 100000
	r, next, e := Parse(strings.Repeat("1 ;", many))
	if len(r.List) != many+1 || len(r.Semi) != many || next != 3*many || e != api.OK {
		t.Error(len(r.List), len(r.Semi), next, e)
	}
	if r.List[many-1] != num(1) || r.List[many] != none || !r.Semi[many-1] {
		t.Error(r.List[many-1:], r.Semi[many-1])
	}
	blanks := strings.Repeat(" \t", many)
	checkParse(t, blanks+"%", row(",", num(1), last), 2*many+1, api.OK)
	checkParse(t, blanks+"1"+blanks+","+blanks, row(",", num(1), none), 6*many+2, api.OK)
	checkOne(t, "/"+strings.Repeat(`\/`, many)+"/", fore(strings.Repeat("/", many)), 2*many+2, api.OK)
	checkOne(t, strings.Repeat("+", many)+blanks, plus(dot, many), many, api.OK)
}

// P20.2: which line is found, from each one on.
func TestSearch(t *testing.T) {
	v := five()
	for cur, want := range [][2]int{{1, 3}, {3, 3}, {3, 1}, {1, 1}, {1, 3}, {1, 3}} {
		v.Cur = cur
		checkSearch(t, v, "ab", false, want[0], api.OK)
		checkSearch(t, v, "ab", true, want[1], api.OK)
		checkSearch(t, v, "^x$", false, 4, api.OK)
		checkSearch(t, v, "^x$", true, 4, api.OK)
		checkSearch(t, v, ".", false, cur%5+1, api.OK)
		checkSearch(t, v, "q", false, 0, api.ErrSought)
		checkSearch(t, v, "q", true, 0, api.ErrSought)
	}
	for cur, want := range []int{5, 5, 1, 2, 3, 4} {
		v.Cur = cur
		checkSearch(t, v, ".", true, want, api.OK)
	}
}

// P20.2: a current line that there is not is the nearest one.
func TestSearchFar(t *testing.T) {
	v := five()
	for _, cur := range []int{-1, -2, math.MinInt32, math.MinInt, math.MinInt + 1} {
		v.Cur = cur
		checkSearch(t, v, ".", false, 1, api.OK)
		checkSearch(t, v, ".", true, 5, api.OK)
		checkSearch(t, v, "ab", true, 3, api.OK)
	}
	for _, cur := range []int{6, 7, math.MaxInt32, math.MaxInt, math.MaxInt - 1} {
		v.Cur = cur
		checkSearch(t, v, ".", false, 1, api.OK)
		checkSearch(t, v, ".", true, 4, api.OK)
		checkSearch(t, v, "y", true, 5, api.OK)
	}
}

// P20.2: the empty pattern is the last one, and there may be none; what is no pattern; buffers without lines.
func TestSearchPatterns(t *testing.T) {
	v := five()
	checkSearch(t, v, "", false, 0, api.ErrNoRE)
	checkSearch(t, v, "", true, 0, api.ErrNoRE)
	checkSearch(t, v, `\(`, false, 0, api.ErrPattern)
	checkSearch(t, v, "[", true, 0, api.ErrPattern)
	v.Last = "x"
	checkSearch(t, v, "", false, 4, api.OK)
	checkSearch(t, v, "", true, 4, api.OK)
	checkSearch(t, v, "y", false, 5, api.OK)
	checkSearch(t, v, "[", false, 0, api.ErrPattern)
	v.Last = "["
	checkSearch(t, v, "", false, 0, api.ErrPattern)
	checkSearch(t, v, "y", false, 5, api.OK)
	v.Lines = nil
	for _, cur := range []int{-1, 0, 1, 9, math.MinInt, math.MaxInt} {
		v.Cur = cur
		checkSearch(t, v, "x", false, 0, api.ErrSought)
		checkSearch(t, v, ".*", true, 0, api.ErrSought)
		checkSearch(t, v, "", true, 0, api.ErrPattern)
	}
	v.Last = ""
	checkSearch(t, v, "", false, 0, api.ErrNoRE)
	v.Lines, v.Cur = []string{"", ""}, 0
	checkSearch(t, v, "^$", false, 1, api.OK)
	checkSearch(t, v, "x*", true, 2, api.OK)
}

// slow is a pattern that takes more than a match's fuel in slowLine, and matches in "ab" all the same.
const slow = `\(a*\)\(a*\)\(a*\)\1b`

var slowLine = strings.Repeat("a", 200)

// P20.2: a line that takes too long ends the search, but only if it is looked at.
func TestSearchFuel(t *testing.T) {
	v := api.View{Lines: []string{"x", slowLine, "ab", "x"}, Cur: 1}
	checkSearch(t, v, slow, false, 0, api.ErrFuel)
	checkSearch(t, v, slow, true, 3, api.OK)
	v.Cur = 2
	checkSearch(t, v, slow, false, 3, api.OK)
	checkSearch(t, v, slow, true, 3, api.OK)
	v.Cur = 3
	checkSearch(t, v, slow, true, 0, api.ErrFuel)
	checkSearch(t, v, slow, false, 0, api.ErrFuel)
	v.Lines[2] = "x"
	v.Cur = 2
	checkSearch(t, v, slow, false, 0, api.ErrFuel) // the current line comes last
}

// P20.3: addresses that are not there.
func TestEvalLeftOut(t *testing.T) {
	v := five()
	checkLines(t, v, ",,", 5, 5, 2, "", api.OK)
	checkLines(t, v, ";;", 5, 5, 2, "", api.OK)
	checkLines(t, v, "2,,", 2, 2, 2, "", api.OK)
	checkLines(t, v, ",2,", 2, 2, 2, "", api.OK)
	checkLines(t, v, "2,,3", 2, 3, 2, "", api.OK)
	checkLines(t, v, ";3", 2, 3, 2, "", api.OK)
	checkLines(t, v, ",;+", 0, 0, 0, "", api.ErrAddress) // behind the last line
	checkLines(t, v, ",;-", 0, 0, 0, "", api.ErrAddress) // 5, 4
	checkLines(t, v, ";,-", 0, 0, 0, "", api.ErrAddress) // the current line is still 2: 5, 1
	checkLines(t, v, ";,+,+", 3, 3, 2, "", api.OK)
	checkEval(t, v, row("", none), 1, 1, 1, "", api.OK)
	checkEval(t, v, row(";", none), 1, 1, 1, "", api.OK) // behind the last one there is nothing
	v.Cur = 0
	checkLines(t, v, ";", 0, 5, 2, "", api.OK)
	checkLines(t, v, ";;", 5, 5, 2, "", api.OK)
}

// P20.3: behind a semicolon the line is the current one, behind a comma it is not.
func TestEvalSemicolons(t *testing.T) {
	v := five()
	checkLines(t, v, "3,+1", 3, 3, 2, "", api.OK)
	checkLines(t, v, "3;+1", 3, 4, 2, "", api.OK)
	checkLines(t, v, "3;", 3, 3, 2, "", api.OK)
	checkLines(t, v, "3;+;+", 4, 5, 2, "", api.OK)
	checkLines(t, v, "3;+,+", 4, 4, 2, "", api.OK)
	checkLines(t, v, "3;;+", 3, 4, 2, "", api.OK)
	checkLines(t, v, "4;.", 4, 4, 2, "", api.OK)
	checkLines(t, v, "4;/ab/", 0, 0, 0, "", api.ErrAddress)
	checkLines(t, v, "1,/ab/", 1, 3, 2, "ab", api.OK)
	checkLines(t, v, "3;/ab/", 0, 0, 0, "", api.ErrAddress)
	checkLines(t, v, "1;/ab/", 1, 3, 2, "ab", api.OK)
	checkLines(t, v, "0;/ab/", 0, 1, 2, "ab", api.OK)
	checkLines(t, v, "3;?ab?,?ab?", 1, 1, 2, "ab", api.OK)
	if v.Cur != 2 {
		t.Error(v.Cur)
	}
	v.Cur = 9
	checkLines(t, v, ".", 0, 0, 0, "", api.ErrAddress)
	checkLines(t, v, ".-5", 4, 4, 1, "", api.OK)
	checkLines(t, v, ";", 0, 0, 0, "", api.ErrAddress)
	checkLines(t, v, ";3,4", 0, 0, 0, "", api.ErrAddress)
	checkLines(t, v, ",3", 1, 3, 2, "", api.OK)
	v.Cur = -1
	checkLines(t, v, ";", 0, 0, 0, "", api.ErrAddress)
	checkLines(t, v, "+", 0, 0, 1, "", api.OK)
}

// P20.3: fewer, or more, words on semicolons than there are addresses.
func TestEvalOtherSemi(t *testing.T) {
	v := five()
	v.Cur = 1
	plusOne := plus(dot, 1)
	checkEval(t, v, row("", num(3), plusOne), 0, 0, 0, "", api.ErrAddress)
	checkEval(t, v, row("", num(2), plusOne), 2, 2, 2, "", api.OK)
	checkEval(t, v, row(";", num(3), plusOne, plusOne), 4, 4, 2, "", api.OK)
	checkEval(t, v, row(";;;;;", num(3), plusOne), 3, 4, 2, "", api.OK)
	checkEval(t, v, row(";;;"), 0, 0, 0, "", api.OK)
	checkEval(t, v, api.Range{}, 0, 0, 0, "", api.OK)
}

// P20.3: the pattern that was used last, and by which addresses.
func TestEvalLast(t *testing.T) {
	v := five()
	v.Last = "y"
	checkLines(t, v, "", 0, 0, 0, "y", api.OK)
	checkLines(t, v, "1,2", 1, 2, 2, "y", api.OK)
	checkLines(t, v, "//", 5, 5, 1, "y", api.OK)
	checkLines(t, v, "??", 5, 5, 1, "y", api.OK)
	checkLines(t, v, "/ab/,//", 3, 3, 2, "ab", api.OK)
	checkLines(t, v, "/x/,/y/", 4, 5, 2, "y", api.OK)
	checkLines(t, v, "?ab?,/x/,$", 4, 5, 2, "x", api.OK)
	checkLines(t, v, "?ab?;//,?x?", 3, 4, 2, "x", api.OK)
	checkLines(t, v, "/q/,//", 0, 0, 0, "", api.ErrSought)
	if v.Last != "y" {
		t.Error(v.Last)
	}
	v.Last = ""
	checkLines(t, v, "//", 0, 0, 0, "", api.ErrNoRE)
	checkLines(t, v, "/ab/;//", 0, 0, 0, "", api.ErrAddress) // 3, and then 1
	checkLines(t, v, "?ab?;//", 1, 3, 2, "ab", api.OK)
	checkLines(t, v, "1,//", 0, 0, 0, "", api.ErrNoRE)
	// What belongs to other kinds is no pattern that was used.
	checkEval(t, v, row("", api.Address{Kind: api.AdNumber, N: 3, Re: "x"}), 3, 3, 1, "", api.OK)
	checkEval(t, v, row("", api.Address{Re: "x"}), 1, 1, 1, "", api.OK)
}

// P20.3: lines that there are not.
func TestEvalEnds(t *testing.T) {
	v := five()
	for s, want := range map[string]int{"0": 0, "5": 5, "$": 5, "$-5": 0, ".-2": 0, "'a+1": 5, "'a-4": 0, "/x/+": 5, "?ab?-": 0, "9-4": 5, "0+5": 5} {
		r, _, _ := Parse(s)
		if a, b, n, _, e := Eval(v, r); a != want || b != want || n != 1 || e != api.OK {
			t.Error(s, a, b, n, e)
		}
	}
	for _, s := range []string{"6", "$+", "$-6", ".-3", "'a+2", "'a-5", "/x/+2", "?ab?-2", "0-1", "999999999", "6,1", "6,1,2", "1,6", "6;1", ".,$+,2"} {
		checkLines(t, v, s, 0, 0, 0, "", api.ErrAddress)
	}
	v.Marks = api.Marks{6, -1, math.MinInt, math.MaxInt}
	checkLines(t, v, "'a", 0, 0, 0, "", api.ErrAddress)
	checkLines(t, v, "'a-1", 5, 5, 1, "", api.OK)
	checkLines(t, v, "'b", 0, 0, 0, "", api.ErrMark)
	checkLines(t, v, "'c", 0, 0, 0, "", api.ErrMark)
	checkLines(t, v, "'d", 0, 0, 0, "", api.ErrAddress)
	checkLines(t, v, "'d+3", 0, 0, 0, "", api.ErrAddress)
}

// P20.3: a buffer without lines has just the line 0.
func TestEvalEmpty(t *testing.T) {
	v := api.View{}
	for _, s := range []string{"0", "$", "."} {
		checkLines(t, v, s, 0, 0, 1, "", api.OK)
	}
	checkLines(t, v, ";", 0, 0, 2, "", api.OK)
	checkLines(t, v, "0,", 0, 0, 2, "", api.OK)
	for _, s := range []string{",", "%", "1", ",0", ",,", ",0,0", "+", "-"} {
		checkLines(t, v, s, 0, 0, 0, "", api.ErrAddress)
	}
	checkLines(t, v, "/x/", 0, 0, 0, "", api.ErrSought)
	checkEval(t, v, row("", none), 0, 0, 0, "", api.ErrAddress)
}

// P20.3: kinds that are none, marks that are none, and numbers that are too far.
func TestEvalOther(t *testing.T) {
	v := five()
	for _, kind := range []int{-1, 7, 8, 255, 256, 1 << 40, math.MinInt, math.MaxInt} {
		checkEval(t, v, row("", api.Address{Kind: kind, N: 3}), 0, 0, 0, "", api.ErrAddress)
	}
	for _, n := range []int{-1, 26, 255, 256, 1 << 32, 1 << 40, -1 << 40} {
		checkEval(t, v, row("", api.Address{Kind: api.AdMark, N: n}), 0, 0, 0, "", api.ErrMark)
	}
	v.Marks = api.Marks{25: 3}
	checkEval(t, v, row("", mk('z')), 3, 3, 1, "", api.OK)
	const most = 1 << 40
	checkEval(t, v, row("", plus(num(most), 3-most)), 3, 3, 1, "", api.OK)
	checkEval(t, v, row("", plus(num(-most), most)), 0, 0, 1, "", api.OK)
	v.Cur = 2 + most
	checkEval(t, v, row("", plus(dot, -most)), 2, 2, 1, "", api.OK)
	v.Cur = 2 - most
	checkEval(t, v, row("", plus(dot, most)), 2, 2, 1, "", api.OK)
	for _, n := range []int{most + 1, -most - 1, math.MaxInt, math.MinInt, math.MinInt + 1} {
		v.Cur = 2 - n
		checkEval(t, v, row("", plus(dot, n)), 0, 0, 0, "", api.ErrAddress)
		checkEval(t, v, row("", plus(num(n), 2-n)), 0, 0, 0, "", api.ErrAddress)
		v.Marks = api.Marks{2 - n}
		checkEval(t, v, row("", plus(mk('a'), n)), 0, 0, 0, "", api.ErrAddress)
		// Of kinds that have no N, too, and ahead of all other errors.
		checkEval(t, v, row("", api.Address{Kind: api.AdLast, N: n}), 0, 0, 0, "", api.ErrAddress)
		checkEval(t, v, row("", plus(mk('b'), n)), 0, 0, 0, "", api.ErrAddress)
		checkEval(t, v, row("", plus(fore("["), n)), 0, 0, 0, "", api.ErrAddress)
		checkEval(t, v, row("", plus(rear(""), n)), 0, 0, 0, "", api.ErrAddress)
		// One that is not there has neither.
		checkEval(t, v, row("", api.Address{N: n, Add: n}), 1, 1, 1, "", api.OK)
	}
	for _, cur := range []int{math.MaxInt, math.MinInt} {
		v.Cur = cur
		for _, add := range []int{0, 1, -1, most, -most} {
			checkEval(t, v, row("", plus(dot, add)), 0, 0, 0, "", api.ErrAddress)
		}
	}
}

// P20.3: errors are told address by address, and that of the order is the last one.
func TestEvalErrors(t *testing.T) {
	v := five()
	for s, want := range map[string]api.Errno{
		"/q/,'b": api.ErrSought, "'b,/q/": api.ErrMark, "//,6": api.ErrNoRE, "6,//": api.ErrAddress,
		"/[/,/q/": api.ErrPattern, "4,2,'b": api.ErrMark, "4,2,/q/": api.ErrSought, "?[?": api.ErrPattern, "??": api.ErrNoRE,
	} {
		checkLines(t, v, s, 0, 0, 0, "", want)
	}
	v.Lines[2] = slowLine
	checkEval(t, v, row(",", last, fore(slow)), 0, 0, 0, "", api.ErrFuel)
	checkLines(t, v, "4,2,3", 2, 3, 2, "", api.OK) // only of the last two
	checkLines(t, v, "1,4,2", 0, 0, 0, "", api.ErrAddress)
}

// R2: a view and a range stay what they are, and the same again says the same.
func TestArgumentsStay(t *testing.T) {
	v, r := five(), row(";,;", fore("ab"), none, rear("x"), plus(dot, 0))
	for range 3 {
		checkEval(t, v, r, 4, 4, 2, "x", api.OK)
	}
	if !slices.Equal(v.Lines, five().Lines) || v.Cur != 2 || v.Marks != five().Marks || v.Last != "" {
		t.Error(v)
	}
	if !sameRange(r, row(";,;", fore("ab"), none, rear("x"), plus(dot, 0))) {
		t.Error(r)
	}
}

// R4: each range that is read has lists of its own.
func TestListsAreNotShared(t *testing.T) {
	for _, s := range []string{"%", "1,2;3"} {
		first, _, _ := Parse(s)
		want := api.Range{List: slices.Clone(first.List), Semi: slices.Clone(first.Semi)}
		for i := range first.List {
			first.List[i] = num(9)
		}
		for i := range first.Semi {
			first.Semi[i] = !first.Semi[i]
		}
		if next, _, _ := Parse(s); !sameRange(next, want) {
			t.Error(s, next)
		}
	}
}
