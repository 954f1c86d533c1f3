package subst

import (
	"math"
	"slices"
	"strings"
	"testing"

	"inkhorn/api"
	"inkhorn/bre"
	"inkhorn/match"
	"inkhorn/templates"
)

// parsed is a pattern.
func parsed(t *testing.T, re string) *bre.Re {
	t.Helper()
	r, e := bre.Parse(re)
	if e != api.OK {
		t.Fatalf("%s: %v", re, e)
	}
	return r
}

// read is a replacement.
func read(t *testing.T, repl string) *templates.Tpl {
	t.Helper()
	tpl, e := templates.Parse(repl)
	if e != api.OK {
		t.Fatalf("%s: %v", repl, e)
	}
	return tpl
}

// checkLine holds lines with matches replaced against what they ought to be.
func checkLine(t *testing.T, re, repl, s string, nth int, all bool, n int, want ...string) {
	t.Helper()
	l, count, e := Line(parsed(t, re), read(t, repl), s, nth, all)
	if !slices.Equal(l, want) || count != n || e != api.OK {
		t.Errorf("s/%.40s/%.40q/ of %.40q, %d %v: %.200q %d %v, not %.200q %d", re, repl, s, nth, all, l, count, e, want, n)
	}
}

// checkError asks for an error, and nothing else.
func checkError(t *testing.T, r *bre.Re, tpl *templates.Tpl, s string, nth int, want api.Errno) {
	t.Helper()
	for _, all := range []bool{false, true} {
		if l, n, e := Line(r, tpl, s, nth, all); len(l) != 0 || n != 0 || e != want {
			t.Errorf("%.40q, %d %v: %.200q %d %v, not %v", s, nth, all, l, n, e, want)
		}
	}
}

// checkMatches holds the places of matches, without those of groups, against what they ought to be.
func checkMatches(t *testing.T, re, s string, want ...[2]int) {
	t.Helper()
	found, e := Matches(parsed(t, re), s)
	if got := whole(found); !slices.Equal(got, want) || e != api.OK {
		t.Errorf("%.40s, %.40q: %v %v, not %v", re, s, got, e, want)
	}
}

// whole is what all of each match has.
func whole(found [][10][2]int) (spans [][2]int) {
	for _, m := range found {
		spans = append(spans, m[0])
	}
	return spans
}

func TestExamples(t *testing.T) {
	checkLine(t, "x*", "-", "abc", 1, true, 4, "-a-b-c-")
	checkLine(t, "x*", "-", "abc", 2, false, 1, "a-bc")
	checkLine(t, "b*", "-", "abc", 1, true, 3, "-a-c-")
	checkLine(t, "b*", "-", "abc", 2, false, 1, "a-c")
	checkLine(t, "a", "\\\n", "bab", 1, true, 1, "b", "b")
	checkLine(t, "a", "\\\n", "bab", 2, false, 0, "bab")
	checkLine(t, `\(.\)\(.\)`, `\2\1`, "abcd", 1, true, 2, "badc")
	checkLine(t, `\(.\)\(.\)`, `\2\1`, "abcd", 2, false, 1, "abdc")
}

// P22.1: the places of the matches, from left to right.
func TestMatches(t *testing.T) {
	checkMatches(t, "a", "")
	checkMatches(t, "a", "bcd")
	checkMatches(t, "a", "aba", [2]int{0, 1}, [2]int{2, 3})
	checkMatches(t, "aa", "aaaaa", [2]int{0, 2}, [2]int{2, 4})
	checkMatches(t, "a*", "aabaa", [2]int{0, 2}, [2]int{3, 5})
	checkMatches(t, "a*", "baab", [2]int{0, 0}, [2]int{1, 3}, [2]int{4, 4})
	checkMatches(t, "", "", [2]int{0, 0})
	checkMatches(t, "", "ab", [2]int{0, 0}, [2]int{1, 1}, [2]int{2, 2})
	checkMatches(t, "^", "ab", [2]int{0, 0})
	checkMatches(t, "^a", "aaa", [2]int{0, 1}) // the beginning is that of the line, not where a match is sought from
	checkMatches(t, "$", "ab", [2]int{2, 2})
	checkMatches(t, "a*$", "aba", [2]int{2, 3}) // the empty one behind it begins where it ends
	checkMatches(t, "^$", "", [2]int{0, 0})
	checkMatches(t, ".*", "ab", [2]int{0, 2})
	checkMatches(t, "b*$", "ab", [2]int{1, 2})
	checkMatches(t, "a\\{0,2\\}", "aaaaab", [2]int{0, 2}, [2]int{2, 4}, [2]int{4, 5}, [2]int{6, 6})
	checkMatches(t, "\xc3", "\xc3\xa9\xc3", [2]int{0, 1}, [2]int{2, 3}) // bytes, not runes
	checkMatches(t, "x*", "\xc3\xa9", [2]int{0, 0}, [2]int{1, 1}, [2]int{2, 2})
	checkMatches(t, ".", "a\x00\n\r", [2]int{0, 1}, [2]int{1, 2}, [2]int{2, 3}, [2]int{3, 4})
}

// P22.1: of each match its groups are told, too; those that have no stretch, and those that are none, with -1.
func TestMatchesGroups(t *testing.T) {
	found, e := Matches(parsed(t, `\(a\)*\(b\)`), "babb")
	none := [2]int{-1, -1}
	want := [][10][2]int{
		{{0, 1}, none, {0, 1}, none, none, none, none, none, none, none},
		{{1, 3}, {1, 2}, {2, 3}, none, none, none, none, none, none, none},
		{{3, 4}, none, {3, 4}, none, none, none, none, none, none, none},
	}
	if !slices.Equal(found, want) || e != api.OK {
		t.Errorf("%v %v", found, e)
	}
	found, e = Matches(parsed(t, `\(.\)\(.\)\2\1`), "xabbacddc")
	want = [][10][2]int{
		{{1, 5}, {1, 2}, {2, 3}, none, none, none, none, none, none, none},
		{{5, 9}, {5, 6}, {6, 7}, none, none, none, none, none, none, none},
	}
	if !slices.Equal(found, want) || e != api.OK {
		t.Errorf("%v %v", found, e)
	}
}

// P22.1: each match has api.Fuel for itself, and where that is too little for one of them nothing is told.
func TestFuel(t *testing.T) {
	r := parsed(t, `\(a*\)*\1b`)
	dear := strings.Repeat("a", 15) + "b"
	if _, _, e := match.Match(r, dear, 0, api.Fuel/2); e != api.ErrFuel {
		t.Fatal(e)
	}
	s := strings.Repeat(dear, 3) // all of them together are more than api.Fuel
	found, e := Matches(r, s)
	if want := [][2]int{{0, 16}, {16, 32}, {32, 48}}; !slices.Equal(whole(found), want) || e != api.OK {
		t.Error(found, e)
	}
	checkLine(t, `\(a*\)*\1b`, "x", s, 1, true, 3, "xxx")

	s += "a" + dear
	if found, e := Matches(r, s); found != nil || e != api.ErrFuel {
		t.Error(found, e)
	}
	checkError(t, r, read(t, "x"), s, 1, api.ErrFuel) // though the first match is found without
}

// P22.1: just as much fuel as there is is enough.
func TestFuelToTheUnit(t *testing.T) {
	// A pattern with a reference that matches nowhere takes a try at each place: more of them, or one, is what is lacking.
	r := parsed(t, `\(a\)\1`)
	for _, n := range []int{api.Fuel - 1, api.Fuel} {
		s := strings.Repeat("b", n)
		want := api.OK
		if cost := n + 1; cost > api.Fuel { // one at the text's end, too
			want = api.ErrFuel
		}
		if found, e := Matches(r, s); e != want || len(found) != 0 {
			t.Error(n, len(found), e)
		}
	}
}

// R3: a pattern that is none is told ahead of all else, and a replacement that is nil, too.
func TestNone(t *testing.T) {
	for _, r := range []*bre.Re{nil, new(bre.Re)} {
		for _, s := range []string{"", "abc", strings.Repeat("a", 2000)} {
			if found, e := Matches(r, s); found != nil || e != api.ErrNil {
				t.Error(found, e)
			}
			for _, nth := range []int{-1, 0, 1} {
				checkError(t, r, nil, s, nth, api.ErrNil)
				checkError(t, r, read(t, "x"), s, nth, api.ErrNil)
			}
		}
	}
	for _, nth := range []int{-1, 0, 1, 2} {
		checkError(t, parsed(t, "a"), nil, "aaa", nth, api.ErrNil)
		checkError(t, parsed(t, "a"), nil, strings.Repeat("a", 2000), nth, api.ErrNil)
	}
	// A replacement that was not read has no pieces, and so stands for nothing.
	if l, n, e := Line(parsed(t, "a"), new(templates.Tpl), "bab", 1, true); !slices.Equal(l, []string{"bb"}) || n != 1 || e != api.OK {
		t.Error(l, n, e)
	}
}

// P22.2: which matches are replaced, and how many.
func TestLine(t *testing.T) {
	checkLine(t, "a", "x", "banana", 1, false, 1, "bxnana")
	checkLine(t, "a", "x", "banana", 1, true, 3, "bxnxnx")
	checkLine(t, "a", "x", "banana", 2, false, 1, "banxna")
	checkLine(t, "a", "x", "banana", 2, true, 2, "banxnx")
	checkLine(t, "a", "x", "banana", 3, false, 1, "bananx")
	checkLine(t, "a", "x", "banana", 3, true, 1, "bananx")
	checkLine(t, "a", "x", "banana", 4, false, 0, "banana")
	checkLine(t, "a", "x", "banana", 4, true, 0, "banana")
	checkLine(t, "a", "x", "banana", math.MaxInt, true, 0, "banana")
	checkLine(t, "a", "&", "banana", 1, true, 3, "banana") // replaced by itself, and counted
	checkLine(t, "a", "", "banana", 1, true, 3, "bnn")
	checkLine(t, ".*", "", "banana", 1, true, 1, "")
	checkLine(t, "", "x", "", 1, true, 1, "x")
	checkLine(t, "a", "x", "", 1, true, 0, "")
	checkLine(t, "^", "x", "ab", 1, true, 1, "xab")
	checkLine(t, "$", "x", "ab", 1, true, 1, "abx")
	checkLine(t, `\(a\)\(n\)*`, `<\1\2&>`, "banana", 1, true, 3, "b<anan><anan><aa>")
	checkLine(t, `\(a\)*b`, `[\1]`, "abb", 1, true, 2, "[a][]") // a group has in each match what it has there
	checkLine(t, `\(.\)\1`, `\1`, "aabbcd", 1, true, 2, "abcd")
	checkLine(t, "a", "aa", "aa", 1, true, 2, "aaaa") // what stands there now is not gone through
}

// P22.2: what stands there is cut at each byte 10.
func TestLineIsCut(t *testing.T) {
	checkLine(t, ",", `\n`, "a,b,c", 1, true, 2, "a", "b", "c")
	checkLine(t, ",", `\n`, "a,b,c", 2, true, 1, "a,b", "c")
	checkLine(t, ",", `\n`, ",", 1, true, 1, "", "")
	checkLine(t, ",", "\n", ",,", 1, true, 2, "", "", "")
	checkLine(t, "a", `\n\n&\n`, "bab", 1, true, 1, "b", "", "a", "b")
	checkLine(t, "$", `\n`, "ab", 1, true, 1, "ab", "") // a line that is empty stands behind the last byte 10, too
	checkLine(t, "^", `\n`, "ab", 1, true, 1, "", "ab")
	checkLine(t, "", `\n`, "ab", 1, true, 3, "", "a", "b", "")
	// What is handed in is cut, too, if it is no line.
	checkLine(t, "x", "y", "a\nb", 1, true, 0, "a", "b")
	checkLine(t, "a", "y", "a\nb\n", 1, true, 1, "y", "b", "")
	checkLine(t, "\n", "y", "a\nb\n", 1, true, 2, "ayby")
}

// P22.2: the limits of lines, to the byte and to the line.
func TestLimits(t *testing.T) {
	longest := strings.Repeat("b", api.MaxBytes)
	checkLine(t, "a", longest, "a", 1, true, 1, longest)
	checkLine(t, "b", "b", longest, 1, true, api.MaxBytes, longest)
	checkLine(t, "a", "b", longest, 1, true, 0, longest)
	checkLine(t, "a", `\n`, longest+"a"+longest, 1, true, 1, longest, longest) // the lines that come of it count, not it
	checkError(t, parsed(t, "a"), read(t, longest+"b"), "a", 1, api.ErrLong)
	checkError(t, parsed(t, "a"), read(t, longest), "ab", 1, api.ErrLong)
	checkError(t, parsed(t, "a"), read(t, longest), "ba", 1, api.ErrLong)
	checkError(t, parsed(t, "^"), read(t, "x"), longest, 1, api.ErrLong)
	checkError(t, parsed(t, "^"), read(t, `\nx`+longest), "", 1, api.ErrLong)
	checkError(t, parsed(t, "a"), read(t, "b"), longest+"b", 1, api.ErrLong) // it may be no buffer's, though nothing is replaced
	checkError(t, parsed(t, "b"), read(t, "b"), longest+"b", 2, api.ErrLong)

	cuts := strings.Repeat(`\n`, api.MaxLines-1)
	checkLine(t, "a", cuts, "a", 1, true, 1, make([]string, api.MaxLines)...)
	checkError(t, parsed(t, "a"), read(t, cuts+`\n`), "a", 1, api.ErrLong)
	checkLine(t, "a", `\n`, strings.Repeat("a", api.MaxLines-1), 1, true, api.MaxLines-1, make([]string, api.MaxLines)...)
	l, n, e := Line(parsed(t, "a"), read(t, `\n`), strings.Repeat("a", api.MaxLines), 1, true)
	if len(l) != 0 || n != 0 || e != api.ErrLong {
		t.Error(len(l), n, e)
	}
}

// P22.2: as many of the longest lines as a buffer may have, and what is more by a byte, or by a line.
func TestLongestBuffer(t *testing.T) {
	longest := strings.Repeat("b", api.MaxBytes)
	r, tpl := parsed(t, "a"), read(t, longest+`\n`)
	s := strings.Repeat("a", api.MaxLines-1) + longest
	l, n, e := Line(r, tpl, s, 1, true)
	if !slices.Equal(l, slices.Repeat([]string{longest}, api.MaxLines)) || n != api.MaxLines-1 || e != api.OK {
		t.Error(len(l), n, e)
	}
	checkErrorOfAll := func(s string) {
		t.Helper()
		if l, n, e := Line(r, tpl, s, 1, true); len(l) != 0 || n != 0 || e != api.ErrLong {
			t.Error(len(l), n, e)
		}
	}
	checkErrorOfAll(s + "c")
	checkErrorOfAll("c" + s)
	checkErrorOfAll("a" + s)
	checkErrorOfAll("a" + strings.TrimRight(s, "b")) // a line that is empty is the one too many
}

// P22.2: a text that is as long as a buffer's, or longer, may become shorter by what is replaced behind that.
func TestLongestText(t *testing.T) {
	longest := strings.Repeat("b", api.MaxBytes)
	s := strings.TrimSuffix(strings.Repeat(longest+"\n", api.MaxLines), "\n")
	l, n, e := Line(parsed(t, "c"), read(t, ""), s+"cc", 1, true)
	if len(l) != api.MaxLines || n != 2 || e != api.OK {
		t.Error(len(l), n, e)
	}
	l, n, e = Line(parsed(t, "c"), read(t, ""), s+"cc", 1, false)
	if len(l) != 0 || n != 0 || e != api.ErrLong {
		t.Error(len(l), n, e)
	}
}

// P22.2: ErrNil goes ahead of ErrArg, that of the matches' error, and that of ErrLong.
func TestOrderOfErrors(t *testing.T) {
	long := strings.Repeat("a", api.MaxBytes+1)
	hungry := parsed(t, `\(a*\)*b\1`)
	for _, nth := range []int{math.MinInt, 0} {
		checkError(t, parsed(t, "a"), read(t, "x"), "aaa", nth, api.ErrArg)
		checkError(t, parsed(t, "x"), read(t, "x"), "aaa", nth, api.ErrArg)
		checkError(t, parsed(t, "a"), read(t, "x"), long, nth, api.ErrArg)
		checkError(t, hungry, read(t, "x"), long, nth, api.ErrArg)
		checkError(t, hungry, nil, long, nth, api.ErrNil)
	}
	checkError(t, hungry, read(t, "x"), long, 1, api.ErrFuel)
	checkError(t, hungry, read(t, "x"), long, math.MaxInt, api.ErrFuel)
	checkError(t, hungry, nil, long, 1, api.ErrNil)
}

// P22.3: what lies between the matches stays as it was.
func TestBetween(t *testing.T) {
	for b := range 256 {
		if b == '\n' || b == 'a' {
			continue
		}
		byteB := string([]byte{byte(b)})
		checkLine(t, "a", "\\n", byteB+"a"+byteB+"a"+byteB, 1, true, 2, byteB, byteB, byteB)
	}
}

// R1: great inputs end, where what comes of them is too long for any memory, too.
func TestGreatInputs(t *testing.T) {
	great := strings.Repeat("a", 1<<16)
	checkError(t, parsed(t, "a"), read(t, great), great, 1, api.ErrLong)
	checkError(t, parsed(t, ".*"), read(t, strings.Repeat("&", 1<<10)), great, 1, api.ErrLong)
	if found, e := Matches(parsed(t, "x*"), great); len(found) != len(great)+1 || e != api.OK {
		t.Error(len(found), e)
	}
	nested := strings.Repeat(`\(`, 9) + "a*" + strings.Repeat(`\)*`, 9)
	if found, e := Matches(parsed(t, nested), strings.Repeat("a", api.MaxBytes)+"b"); len(found) != 2 || e != api.OK {
		t.Error(len(found), e)
	}
	parts := strings.Repeat("a*", api.MaxParts/2)
	if found, e := Matches(parsed(t, parts), strings.Repeat("b", api.MaxBytes)); len(found) != api.MaxBytes+1 || e != api.OK {
		t.Error(len(found), e)
	}
}

// R4: lists that are handed out are memory of their own.
func TestListsAreNotShared(t *testing.T) {
	r, tpl := parsed(t, "a"), read(t, `\n`)
	found, _ := Matches(r, "aba")
	again, _ := Matches(r, "aba")
	found[0][0] = [2]int{7, 7}
	if want := [][2]int{{0, 1}, {2, 3}}; !slices.Equal(whole(again), want) {
		t.Error(again)
	}
	l, _, _ := Line(r, tpl, "aba", 1, true)
	other, _, _ := Line(r, tpl, "aba", 1, true)
	l[1] = "spoilt"
	_ = append(l, "more")
	if !slices.Equal(other, []string{"", "b", ""}) {
		t.Error(other)
	}
}

// R2: what a call answers hangs on its arguments alone, and these stay what they were.
func TestArgumentsStay(t *testing.T) {
	r, tpl := parsed(t, `\(a\)\1*`), read(t, `<\1>`)
	tree := bre.Tree(r)
	for range 3 {
		l, n, e := Line(r, tpl, "aab", 1, true)
		if !slices.Equal(l, []string{"<a>b"}) || n != 1 || e != api.OK {
			t.Error(l, n, e)
		}
		checkError(t, r, tpl, "aab", 0, api.ErrArg)
	}
	if now := bre.Tree(r); len(now) != len(tree) || templates.Most(tpl) != 1 {
		t.Error(now)
	}
}
