package match

import (
	"math"
	"reflect"
	"regexp"
	"strings"
	"testing"

	"inkhorn/api"
	"inkhorn/bre"
	"inkhorn/samples"
)

// parsed is a pattern.
func parsed(t *testing.T, re string) *bre.Re {
	t.Helper()
	r, e := bre.Parse(re)
	if e != api.OK {
		t.Fatalf("%s: %v", re, e)
	}
	return r
}

// check holds a match against its stretches: all of it, and those of the first groups; none: there is no match.
func check(t *testing.T, re, s string, from int, want ...[2]int) {
	t.Helper()
	checkFuel(t, re, s, from, api.Fuel, want...)
}

// checkFuel does so with some fuel.
func checkFuel(t *testing.T, re, s string, from, fuel int, want ...[2]int) {
	t.Helper()
	var all [10][2]int
	if want != nil {
		all = noSpans()
		copy(all[:], want)
	}
	got, ok, e := Match(parsed(t, re), s, from, fuel)
	if got != all || ok != (want != nil) || e != api.OK {
		t.Errorf("%.60s, %.60q from %d: %v %v %v, not %v", re, s, from, got, ok, e, want)
	}
}

// checkError asks for an error, and nothing else.
func checkError(t *testing.T, r *bre.Re, s string, from, fuel int, want api.Errno) {
	t.Helper()
	if got, ok, e := Match(r, s, from, fuel); got != [10][2]int{} || ok || e != want {
		t.Errorf("%.60q from %d, fuel %d: %v %v %v, not %v", s, from, fuel, got, ok, e, want)
	}
}

// none is what a group has that has no stretch.
var none = [2]int{-1, -1}

func TestExamples(t *testing.T) {
	check(t, "b*", "abbb", 0, [2]int{0, 0})
	check(t, "b*", "abbb", 1, [2]int{1, 4})
	check(t, `\(a*\)\(ab\)*b*`, "abb", 0, [2]int{0, 3}, [2]int{0, 1}, none)
	check(t, `\(a*\)*`, "aa", 0, [2]int{0, 2}, [2]int{0, 2})
	check(t, `\(\(a\)*b\)*`, "abb", 0, [2]int{0, 3}, [2]int{2, 3}, none)
	check(t, `\(.*\)\1`, "abab", 0, [2]int{0, 4}, [2]int{0, 2})
	check(t, `\(a\)*\1`, "b", 0)
	check(t, "^a", "ba", 0)
	check(t, "a$", "ab", 0)
	check(t, "x*", "b", 1, [2]int{1, 1})
}

// P10.1: a pattern that is none, whatever else is asked.
func TestNone(t *testing.T) {
	for _, r := range []*bre.Re{nil, new(bre.Re)} {
		for _, s := range []string{"", "a"} {
			for _, n := range []int{-1, 0, 1, 2, math.MinInt, math.MaxInt} {
				checkError(t, r, s, n, 0, api.ErrNil)
				checkError(t, r, s, 0, n, api.ErrNil)
			}
		}
	}
}

// P10.1: places that are none; with and without references.
func TestPlaces(t *testing.T) {
	for _, re := range []string{"", "a", "a*", "$", `\(a*\)\1`} {
		for _, s := range []string{"", "a", strings.Repeat("a", 100)} {
			for _, from := range []int{-1, math.MinInt, len(s) + 1, len(s) + 64, math.MaxInt} {
				checkFuel(t, re, s, from, 0)
				checkFuel(t, re, s, from, math.MaxInt)
			}
		}
	}
	check(t, "", "", 0, [2]int{0, 0})
	check(t, "", "ab", 0, [2]int{0, 0})
	check(t, "", "ab", 1, [2]int{1, 1})
	check(t, "", "ab", 2, [2]int{2, 2})
	check(t, "a", "", 0)
	check(t, "a", "ab", 1)
	check(t, "a", "ba", 2)
	check(t, "a", "ba", 1, [2]int{1, 2})
	check(t, `\(\)\1`, "ab", 2, [2]int{2, 2}, [2]int{2, 2})
}

// P10.1: each byte by a Byte, an Any and a Set.
func TestBytes(t *testing.T) {
	for b := range 256 {
		s := string([]byte{byte(b)})
		for c := range 256 {
			text := "x" + string([]byte{byte(c)})
			want := [][2]int{{1, 2}}
			if b != c {
				want = nil
			}
			if !strings.Contains(`.[\*^$`, s) && s != "x" {
				check(t, s, text, 0, want...)
			}
		}
		check(t, ".", s, 0, [2]int{0, 1})
		check(t, ".*", "ab"+s+"ab", 0, [2]int{0, 5})
		check(t, "[^a]", s+"b", 0, [2]int{b2i(b == 'a'), 1 + b2i(b == 'a')})
		check(t, "[[:digit:]]", s, 0, spanIf('0' <= b && b <= '9')...)
		check(t, `\(.\)\1`, "ab"+s+s, 0, [2]int{2 - b2i(b == 'b'), 4 - b2i(b == 'b')}, [2]int{2 - b2i(b == 'b'), 3 - b2i(b == 'b')})
	}
}

func b2i(b bool) int {
	if b {
		return 1
	}
	return 0
}

func spanIf(ok bool) [][2]int {
	if ok {
		return [][2]int{{0, 1}}
	}
	return nil
}

// P10.1: the beginning is at 0, and the end at the text's end, wherever they stand.
func TestEnds(t *testing.T) {
	check(t, "^", "a\na", 0, [2]int{0, 0})
	check(t, "^", "a\na", 1)
	check(t, "$", "a\na", 0, [2]int{3, 3})
	check(t, "^$", "", 0, [2]int{0, 0})
	check(t, "^$", "a", 0)
	check(t, "^a*$", "aaa", 0, [2]int{0, 3})
	check(t, "^a*$", "aab", 0)
	check(t, "a*$", "aabaa", 0, [2]int{3, 5})
	check(t, `\(^a\)*b`, "ab", 0, [2]int{0, 2}, [2]int{0, 1})
	check(t, `\(^a\)*b`, "aab", 0, [2]int{2, 3}, none)
	check(t, `\(^a*\)\{2\}b`, "aab", 0, [2]int{0, 3}, [2]int{0, 2}) // the first turn is empty
	check(t, `\(^aa*\)\{2\}b`, "aab", 0)
	check(t, `\(^a*\)\{2\}b`, "b", 0, [2]int{0, 1}, [2]int{0, 0})
	check(t, `\(a*$\)\{2\}`, "baa", 0, [2]int{1, 3}, [2]int{3, 3})
	check(t, `\(a$\)*b*`, "abb", 0, [2]int{0, 0}, none)
	check(t, `\(.$\)*\(b*\)`, "bb", 0, [2]int{0, 2}, none, [2]int{0, 2})
	check(t, `\(a*$\)*b*`, "aabb", 0, [2]int{0, 0}, none)
}

// P10.1: of ways that end alike it is the row's stretches that are compared first, then what is within.
func TestBetter(t *testing.T) {
	check(t, `\(a\)*\(ab\)*\(b*\)`, "abb", 0, [2]int{0, 3}, [2]int{0, 1}, none, [2]int{1, 3})
	check(t, `\(a*\)\(ab\)*\(bc\)*`, "abc", 0, [2]int{0, 3}, [2]int{0, 1}, none, [2]int{1, 3})
	check(t, `\(a*\)\(abc\)*\(b\)*`, "abc", 0, [2]int{0, 3}, [2]int{0, 0}, [2]int{0, 3}, none)
	check(t, `\(\(a\{0,1\}\)\(ab\)\{0,1\}\)\(b*\)`, "ab", 0, [2]int{0, 2}, [2]int{0, 2}, [2]int{0, 0}, [2]int{0, 2}, [2]int{2, 2})
	check(t, `\(.*\)\(.*\)`, "ab", 0, [2]int{0, 2}, [2]int{0, 2}, [2]int{2, 2})
	check(t, `\(.*\)b\(.*\)`, "abab", 0, [2]int{0, 4}, [2]int{0, 3}, [2]int{4, 4})
	check(t, `\(\(a*\)\(a*\)\)b\3a*`, "aabaa", 0, [2]int{0, 5}, [2]int{0, 2}, [2]int{0, 0}, [2]int{0, 2}) // so is a reference's
	// Of a Times by its turns: the first one is as long as may be.
	check(t, `\(a\{1,2\}\)*`, "aaaaa", 0, [2]int{0, 5}, [2]int{4, 5})
	check(t, `\(a\{1,2\}\)\{3\}`, "aaaa", 0, [2]int{0, 4}, [2]int{3, 4})
	check(t, `\(a\{1,3\}\)\{2,3\}`, "aaaa", 0, [2]int{0, 4}, [2]int{3, 4})
	check(t, `\(a\{2,3\}\)*`, "aaaaaaa", 0, [2]int{0, 7}, [2]int{5, 7})
	check(t, `\(a\{2,3\}\)*`, "aaaa", 0, [2]int{0, 4}, [2]int{2, 4})
	check(t, `\(a\{2,3\}\)*`, "a", 0, [2]int{0, 0}, none)
	// And then within these.
	check(t, `\(\(a*\)\(a*\)\)*`, "aa", 0, [2]int{0, 2}, [2]int{0, 2}, [2]int{0, 2}, [2]int{2, 2})
	check(t, `\(a\{0,1\}\(ab\)\{0,1\}\)*b*`, "ab", 0, [2]int{0, 2}, [2]int{0, 2}, [2]int{0, 2})
	check(t, `\(a\{0,1\}\(ab\)\{0,1\}\)*b*\(\)\3`, "ab", 0, [2]int{0, 2}, [2]int{0, 2}, [2]int{0, 2}, [2]int{2, 2})
	check(t, `\(\(ab\)*\(a\)*\(b\)*\)*`, "abab", 0, [2]int{0, 4}, [2]int{0, 4}, [2]int{2, 4}, none, none)
}

// P10.1: turns that have to be may be empty, others may not; what a group had in another turn it has no more.
func TestTurns(t *testing.T) {
	check(t, `\(a*\)\{3\}`, "aa", 0, [2]int{0, 2}, [2]int{2, 2})
	check(t, `\(a*\)\{2,\}`, "aa", 0, [2]int{0, 2}, [2]int{2, 2})
	check(t, `\(a*\)\{1,\}`, "aa", 0, [2]int{0, 2}, [2]int{0, 2})
	check(t, `\(a*\)\{1,9\}`, "b", 0, [2]int{0, 0}, [2]int{0, 0})
	check(t, `\(a*\)*`, "b", 0, [2]int{0, 0}, none)
	check(t, `\(a*\)\{0,9\}`, "b", 0, [2]int{0, 0}, none)
	check(t, `\(\)*`, "b", 0, [2]int{0, 0}, none)
	check(t, `\(\)\{5\}`, "b", 1, [2]int{1, 1}, [2]int{1, 1})
	check(t, `\(\)\{5,\}`, "b", 1, [2]int{1, 1}, [2]int{1, 1})
	check(t, `\(a\)\{0\}`, "a", 0, [2]int{0, 0}, none)
	check(t, `\(a\)\{0\}b`, "ab", 0, [2]int{1, 2}, none)
	check(t, `\(\(a\{0\}\)\{0,7\}\(\(\)\)*\)\{3,4\}`, "a", 1, [2]int{1, 1}, [2]int{1, 1}, none, none, none)
	check(t, `\(\(a\)\{0,1\}\(b\)\{0,1\}\)*`, "aba", 0, [2]int{0, 3}, [2]int{2, 3}, [2]int{2, 3}, none)
	check(t, `\(\(a\)\{0,1\}\(b\)\{0,1\}\)\{4\}`, "aba", 0, [2]int{0, 3}, [2]int{3, 3}, none, none)
	check(t, `\(\(\(a\)*b\)*c\)*`, "abbcc", 0, [2]int{0, 5}, [2]int{4, 5}, none, none)
	check(t, `\(\(\(a\)*b\)*c\)*`, "abbc", 0, [2]int{0, 4}, [2]int{0, 4}, [2]int{2, 3}, none)
	check(t, `\(a\{255\}\)*`, strings.Repeat("a", 600), 0, [2]int{0, 510}, [2]int{255, 510})
	check(t, `\(a\)\{0,255\}`, strings.Repeat("a", 600), 0, [2]int{0, 255}, [2]int{254, 255})
	check(t, `\(a\)\{255\}b`, strings.Repeat("a", 300)+"b", 0, [2]int{45, 301}, [2]int{299, 300})
	check(t, `\(a\)\{255\}`, strings.Repeat("a", 254), 0)
}

// P10.1: a reference is what its group has by then; it has nothing where that has none.
func TestRefs(t *testing.T) {
	check(t, `\(a*\)b\1`, "aabaa", 0, [2]int{0, 5}, [2]int{0, 2})
	check(t, `\(a*\)b\1`, "aaba", 0, [2]int{1, 4}, [2]int{1, 2})
	check(t, `\(a*\)\1`, "aaaaa", 0, [2]int{0, 4}, [2]int{0, 2})
	check(t, `\(a\)*b\1`, "ba", 0)
	check(t, `\(a\)*b\1`, "aba", 0, [2]int{0, 3}, [2]int{0, 1})
	check(t, `\(a\)*b\1*c`, "bac", 0)
	check(t, `\(a\)*b\1*c`, "bc", 0, [2]int{0, 2}, none)
	check(t, `\(\(a\)*b\)*\2`, "abba", 0)
	check(t, `\(\(a\)*b\)*\2`, "babaa", 0, [2]int{0, 4}, [2]int{1, 3}, [2]int{1, 2})
	check(t, `\(\(.\)\2\)*`, "aabbc", 0, [2]int{0, 4}, [2]int{2, 4}, [2]int{2, 3})
	check(t, `\(\(.\)\2*\)*b\2`, "aabbbb", 0, [2]int{0, 6}, [2]int{2, 4}, [2]int{2, 3})
	check(t, `\(.\)\(.\)\2\1`, "xabbay", 0, [2]int{1, 5}, [2]int{1, 2}, [2]int{2, 3})
	check(t, `\(a\|\)*\1`, "a|a|", 0, [2]int{0, 4}, [2]int{0, 2})
	check(t, `\(^a*\)b\1$`, "abab", 0)
	check(t, `\(^a*\)b\1$`, "aba", 0, [2]int{0, 3}, [2]int{0, 1})
	check(t, `^\(..*\)\n*\1$`, "abcabc", 0, [2]int{0, 6}, [2]int{0, 3})
	check(t, `\(.\)\(.\)\(.\)\(.\)\(.\)\(.\)\(.\)\(.\)\(.\)\9\8\1`, "-123456789981", 0, [2]int{1, 13}, [2]int{1, 2}, [2]int{2, 3},
		[2]int{3, 4}, [2]int{4, 5}, [2]int{5, 6}, [2]int{6, 7}, [2]int{7, 8}, [2]int{8, 9}, [2]int{9, 10})
}

// P10.1: what is spent on a pattern with references, to the unit; nothing on others.
func TestFuel(t *testing.T) {
	for _, x := range []struct {
		re, s string
		from  int
		units int
	}{
		{`\(a\)\1`, "aa", 0, 2},
		{`\(a\)\1`, "", 0, 1},
		{`\(a\)\1`, "b", 0, 2},          // a at 0 and at the text's end
		{`\(a\)\1`, "baab", 0, 3},       // a at 0; a and the reference at 1; no place behind that
		{`\(a\)\1`, "baab", 2, 2 + 2},   // at 2 the reference, too
		{`\(a*\)\1`, "aa", 0, 3 + 3},    // three as; one reference behind each number of them
		{`\(a\)*\1`, "aa", 0, 3 + 3},    // so it is, where that has no stretch
		{`\(a\)\{2\}\1`, "aaa", 0, 3},   // no try behind the second turn
		{`\(a\)\{1,2\}\1`, "aa", 0, 4},  // two as, two references
		{`\(\)\1`, "aa", 1, 1},          // an empty stretch is one, too
		{`^\(\)\1$`, "", 0, 3},          // a beginning and an end are tries
		{`^\(\)\1$`, "a", 0, 3 + 1},     // the beginning at 1
		{`\(a\)\{0\}\(\)\2`, "a", 0, 1}, // what is not gone through takes none
		{`\(\(\)\2\)\{0\}`, "a", 0, 0},
		{`[ab]\(.\)\1`, "abb", 0, 3},
		{`\(\(a*\)\2\)*`, "a", 0, 2 + 2}, // a and another one, two references; the turn that is empty is no turn
	} {
		r := parsed(t, x.re)
		_, ok, _ := Match(r, x.s, x.from, math.MaxInt)
		if _, same, e := Match(r, x.s, x.from, x.units); same != ok || e != api.OK {
			t.Errorf("%s, %q from %d: more than %d units: %v", x.re, x.s, x.from, x.units, e)
		}
		for _, fuel := range []int{x.units - 1, -1, math.MinInt} {
			checkError(t, r, x.s, x.from, fuel, api.ErrFuel)
		}
	}
	for _, fuel := range []int{-1, 0, 1, math.MinInt, math.MaxInt} {
		checkFuel(t, `\(a*\)*b`, "aab", 0, fuel, [2]int{0, 3}, [2]int{0, 2})
		checkFuel(t, `\(a*\)*b`, "aaa", 0, fuel)
		checkFuel(t, `a`, "aaa", 4, fuel)
	}
	// No try is made from a place that is none; less than nothing there is not.
	checkError(t, parsed(t, `\(a\)\1`), "a", 2, -1, api.ErrFuel)
	checkError(t, parsed(t, `\(a\)\1`), "a", -1, math.MinInt, api.ErrFuel)
}

// R2, R4: a pattern stays what it was, and what it answers, too.
func TestStays(t *testing.T) {
	for _, re := range []string{`^\(a[bc]*\)*.\{2,3\}$`, `\(a[bc]*\)*.\{2,3\}\1`} {
		r := parsed(t, re)
		tree := bre.Tree(r)
		first, ok, _ := Match(r, "xabacaxab", 1, api.Fuel)
		for range 3 {
			Match(r, "abc", 0, 3)
			if got, same, e := Match(r, "xabacaxab", 1, api.Fuel); got != first || same != ok || e != api.OK {
				t.Errorf("%s: %v %v %v", re, got, same, e)
			}
		}
		if !reflect.DeepEqual(tree, bre.Tree(r)) || bre.Refs(r) != strings.Contains(re, `\1`) {
			t.Errorf("%s is another one", re)
		}
	}
}

// P10.2: a text of bytes is matched where it is found first.
func TestFirst(t *testing.T) {
	texts := samples.Texts("ab", 7)
	for _, re := range samples.Texts("ab", 3) {
		r := parsed(t, re)
		for _, s := range texts {
			for from := range len(s) + 1 {
				at := strings.Index(s[from:], re)
				got, ok, e := Match(r, s, from, 0)
				if ok != (at >= 0) || e != api.OK || ok && got[0] != [2]int{from + at, from + at + len(re)} {
					t.Fatalf("%s, %q from %d: %v %v %v", re, s, from, got, ok, e)
				}
			}
		}
	}
}

// P10.2: the stretches of groups lie within the match, which is also the one from each place up to its beginning.
func TestWithin(t *testing.T) {
	d := draw(2)
	for range 4000 {
		re, s := d.row(2, d.below(3) == 0), d.text(12)
		r, e := bre.Parse(re)
		if e != api.OK {
			continue
		}
		got, ok, e := Match(r, s, 0, 1000)
		if e != api.OK || !ok {
			continue
		}
		for n, span := range got {
			in := got[0][0] <= span[0] && span[0] <= span[1] && span[1] <= got[0][1]
			if !in && (span != none || n == 0) || n > bre.Groups(r) && span != none {
				t.Fatalf("%s, %q: %v", re, s, got)
			}
		}
		for from := range got[0][0] + 1 {
			if again, ok, e := Match(r, s, from, 1000); again != got || !ok || e != api.OK {
				t.Fatalf("%s, %q from %d: %v %v %v, not %v", re, s, from, again, ok, e, got)
			}
		}
	}
}

// P10.2: rows of bytes, any and sets, repeated or not: no end is further, and no group's stretch, from left to right, could be longer.
func TestRows(t *testing.T) {
	d := draw(3)
	parts := []string{"a", "b", ".", "[ab]", "[^b]"}
	times := []string{"", "*", `\{2\}`, `\{1,2\}`, `\{1,\}`, `\{0,3\}`}
	for range 3000 {
		re, posix := "", ""
		for range 1 + d.below(3) {
			row := ""
			for range 1 + d.below(2) {
				row += d.one(parts) + d.one(times)
			}
			re += `\(` + row + `\)`
			posix += "(" + strings.ReplaceAll(row, `\`, "") + ")"
		}
		s := d.text(8)
		r := parsed(t, re)
		got, ok, _ := Match(r, s, 0, 0)
		at := regexp.MustCompilePOSIX(posix).FindStringIndex(s)
		if ok != (at != nil) || ok && got[0] != [2]int{at[0], at[1]} {
			t.Fatalf("%s, %q: %v %v, not %v", re, s, got, ok, at)
		}
		if ok {
			checkLongest(t, re, posix, s, got)
		}
	}
}

// checkLongest tries to make each group's stretch longer, with those ahead of it as they are.
func checkLongest(t *testing.T, re, posix, s string, got [10][2]int) {
	t.Helper()
	rows := strings.SplitAfter(posix, ")")
	for n := 1; n < len(rows); n++ {
		at := got[n][0]
		group := regexp.MustCompilePOSIX("^" + rows[n-1] + "$")
		rest := regexp.MustCompilePOSIX("^" + strings.Join(rows[n:], "") + "$")
		for end := got[0][1]; end >= at; end-- {
			good := group.MatchString(s[at:end]) && rest.MatchString(s[end:got[0][1]])
			if good != (end == got[n][1]) && end >= got[n][1] {
				t.Fatalf("%s, %q: %v: the group %d goes up to %d", re, s, got, n, end)
			}
		}
	}
}

// P10.1, P0.8: patterns without references end in time, however they are nested, and long texts are no harm.
func TestLong(t *testing.T) {
	line := strings.Repeat("a", api.MaxBytes)
	whole := [2]int{0, api.MaxBytes}
	check(t, "a"+strings.Repeat("*", 199), line, 0, whole)
	check(t, "a"+strings.Repeat("*", 198)+"b", line, 0)
	check(t, "a"+strings.Repeat(`\{0,255\}`, 199), line, 0, whole)
	check(t, "a"+strings.Repeat(`\{255\}`, 199), line, 0)
	check(t, `\(a`+strings.Repeat(`\{0,255\}`, 190)+`\)\{2,255\}b`, line, 0)
	check(t, `\(\)`+strings.Repeat(`\{255\}`, 199), line, 7, [2]int{7, 7}, [2]int{7, 7})
	check(t, `\(\(\(a\{0,255\}\)\{0,255\}\)\{0,255\}\)b`, line, 0)
	check(t, `\(\(\(a\{0,255\}\)\{0,255\}\)\{0,255\}\)`, line, 0, whole, whole, whole, [2]int{765, 1000})
	check(t, `\(\(\(.*\)\{255\}\)\{255\}\)\{255\}`, line, 0, whole, [2]int{1000, 1000}, [2]int{1000, 1000}, [2]int{1000, 1000})
	check(t, `\(\(\(.*\)\{255\}\)\{255\}\)\{255\}b`, line, 0)
	check(t, `\(\(\(a*\)*\)*\)*`, line, 0, whole, whole, whole, whole)
	check(t, `\(\(\(a*\)*\)*\)*b`, line, 0)
	check(t, `\(\(\(aa\)*\(aaa\)*\)*\)*b`, line, 0)
	check(t, `\(\(\(aa\)*\(aaa\)*\)\{1,255\}\)\{1,255\}`, line, 0, whole, whole, whole, [2]int{998, 1000}, none)
	check(t, `\(aa*\)\{255\}b`, line, 0)
	check(t, strings.Repeat("a*", 99)+"b", line, 0)
	check(t, strings.Repeat(`a*b*`, 45)+"c", strings.Repeat("ab", 500), 0)
	check(t, `\(.*\),\(.*\),\(.*\)`, strings.Repeat("a,", 500), 0, whole, [2]int{0, 997}, [2]int{998, 999}, [2]int{1000, 1000})
	long := strings.Repeat("ab", 100000)
	all := [2]int{0, len(long)}
	check(t, ".*", long, 0, all)
	check(t, ".*c", long, 0)
	check(t, "b$", long, 0, [2]int{len(long) - 1, len(long)})
	check(t, `\(ab\)*`, long, 0, all, [2]int{len(long) - 2, len(long)})
	check(t, `\(ab\)*c`, long, 0)
	check(t, `\(\([ab]*\)*\)*c`, long, 0)
	check(t, "abc", long, 0)
}

// R1: patterns with references end by their fuel, however they are nested, and long ways make no deep calls.
func TestLongRefs(t *testing.T) {
	line := strings.Repeat("a", api.MaxBytes)
	for _, re := range []string{`\(a*\)*\1`, `\(a*\)*b\1`, `\(\(a*\)*\)*\1`, `\(a\{0,255\}\)\{0,255\}\1`, `\(.*\)*\(.*\)*\2\1`, `\(a*\)` + strings.Repeat(`\{255\}`, 150) + `\1b`} {
		checkError(t, parsed(t, re), line, 0, api.Fuel, api.ErrFuel)
	}
	check(t, `\(\)`+strings.Repeat(`\{255\}`, 190)+`\1`, line, 3, [2]int{3, 3}, [2]int{3, 3})
	check(t, `\(a\{0\}\)`+strings.Repeat(`\{2,255\}`, 190)+`\1b`, line, 0)
	check(t, `\(a*\)\1`, line, 0, [2]int{0, 1000}, [2]int{0, 500})
	long := strings.Repeat("ab", 100000)
	checkFuel(t, `^\(\(ab\)*\)\2$`, long, 0, math.MaxInt, [2]int{0, len(long)}, [2]int{0, len(long) - 2}, [2]int{len(long) - 4, len(long) - 2})
}
