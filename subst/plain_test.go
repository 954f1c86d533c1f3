package subst

import (
	"regexp"
	"slices"
	"strings"
	"testing"

	"inkhorn/api"
	"inkhorn/bre"
	"inkhorn/lines"
	"inkhorn/match"
	"inkhorn/samples"
	"inkhorn/templates"
)

// plainMatches goes on from a place on by the document's words, behind the matches that were found ahead, those that do not count, too.
func plainMatches(r *bre.Re, s string, from int, found [][10][2]int) ([][10][2]int, api.Errno) {
	if from > len(s) {
		return counted(found), api.OK
	}
	m, ok, e := match.Match(r, s, from, api.Fuel)
	switch {
	case e != api.OK:
		return nil, e
	case !ok:
		return counted(found), api.OK
	case m[0][0] == m[0][1]:
		return plainMatches(r, s, m[0][1]+1, append(found, m))
	}
	return plainMatches(r, s, m[0][1], append(found, m))
}

// counted is what was found, but for the matches that are empty, and begin where the one ahead ends.
func counted(found [][10][2]int) (all [][10][2]int) {
	for i, m := range found {
		empty := m[0][0] == m[0][1]
		if !(empty && i > 0 && found[i-1][0][1] == m[0][0]) {
			all = append(all, m)
		}
	}
	return all
}

// plainLine is a line byte by byte: where a match that is to be replaced begins, what stands for it, and the bytes that are in none.
func plainLine(found [][10][2]int, tpl *templates.Tpl, s string, nth int, all bool) ([]string, int, api.Errno) {
	n := 0
	var laid []byte
	taken := func(i int) bool { return i+1 == nth || all && i+1 > nth }
	for at := range len(s) + 1 {
		kept := at < len(s)
		for i, m := range found {
			if taken(i) && m[0][0] == at {
				laid = append(laid, templates.Expand(tpl, s, m)...)
				n++
			}
			if taken(i) && m[0][0] <= at && at < m[0][1] {
				kept = false
			}
		}
		if kept {
			laid = append(laid, s[at])
		}
	}
	l, ended := lines.Split(string(laid))
	if ended {
		l = append(l, "") // what stands behind the last byte 10
	}
	if lines.Check(l) != api.OK {
		return nil, 0, api.ErrLong
	}
	return l, n, api.OK
}

// checkAll holds what a pattern matches in a text, and that replaced, against the document's words.
func checkAll(t *testing.T, r *bre.Re, tpl *templates.Tpl, s string) {
	t.Helper()
	want, e := plainMatches(r, s, 0, nil)
	found, e2 := Matches(r, s)
	if !slices.Equal(found, want) || e2 != e {
		t.Fatalf("%v, %.80q: %v %v, not %v %v", bre.Tree(r), s, found, e2, want, e)
	}
	for nth := range len(want) + 3 {
		for _, all := range []bool{false, true} {
			lineIs, n, got := plainLine(want, tpl, s, nth, all)
			switch {
			case nth < 1:
				lineIs, n, got = nil, 0, api.ErrArg
			case e != api.OK:
				lineIs, n, got = nil, 0, e
			}
			if l, count, e := Line(r, tpl, s, nth, all); !slices.Equal(l, lineIs) || count != n || e != got {
				t.Fatalf("%v, %.80q, %d %v: %.200q %d %v, not %.200q %d %v", bre.Tree(r), s, nth, all, l, count, e, lineIs, n, got)
			}
		}
	}
}

// rows is all rows of at most most of some parts.
func rows(parts []string, most int) (all []string) {
	for _, row := range samples.Lists(parts, most) {
		all = append(all, strings.Join(row, ""))
	}
	return all
}

// TestAllShort goes through all rows of up to three parts, and all short texts.
func TestAllShort(t *testing.T) {
	tpl := read(t, `<\1\n&>`)
	texts := samples.Texts("ab", 4)
	for _, re := range rows([]string{"a", "b*", ".", `\(a*\)`, `\1`, "^", "$", `\(b\)*`, `a\{2,3\}`, `[^a]`}, 3) {
		r, e := bre.Parse(re)
		if e != api.OK {
			continue // a reference without a group
		}
		for _, s := range texts {
			checkAll(t, r, tpl, s)
		}
	}
}

// TestAgainstLibrary holds the places of matches against those of another program's patterns, of which the leftmost longest ones are told.
func TestAgainstLibrary(t *testing.T) {
	texts := samples.Texts("abc", 4)
	theirWay := strings.NewReplacer(`\(`, "(", `\)`, ")", `\{`, "{", `\}`, "}")
	for _, re := range rows([]string{"a", "b*", ".", `\(ab*\)*`, "[^a]*", "c", `b\{2\}`}, 3) {
		r := parsed(t, re)
		theirs := regexp.MustCompilePOSIX(theirWay.Replace(re))
		for _, s := range texts {
			var want [][2]int
			for _, m := range theirs.FindAllStringIndex(s, -1) {
				want = append(want, [2]int{m[0], m[1]})
			}
			found, e := Matches(r, s)
			if got := whole(found); !slices.Equal(got, want) || e != api.OK {
				t.Fatalf("%s, %s: %v %v, not %v", re, s, got, e, want)
			}
			got, n, e := Line(r, read(t, "<&>"), s, 1, true)
			if replaced := theirs.ReplaceAllString(s, "<${0}>"); !slices.Equal(got, []string{replaced}) || n != len(want) || e != api.OK {
				t.Fatalf("%s, %s: %q %d %v, not %q", re, s, got, n, e, replaced)
			}
		}
	}
}

// draw tells numbers that look as if drawn, the same ones in each run.
type draw uint64

func (d *draw) below(n int) int {
	*d = *d*6364136223846793005 + 1442695040888963407
	return int(uint64(*d)>>33) % n
}

// row is a drawn row of up to most of some parts.
func (d *draw) row(parts []string, most int) string {
	var b strings.Builder
	for range d.below(most + 1) {
		b.WriteString(parts[d.below(len(parts))])
	}
	return b.String()
}

// TestDrawn goes through long patterns, replacements and lines, up to the limits.
func TestDrawn(t *testing.T) {
	d := draw(22)
	parts := []string{"a", "b", ".", "*", "*", "^", "$", `\(`, `\)`, `\1`, `\2`, `\{2\}`, `\{0,3\}`, "[ab]", "[^a]", `\*`}
	pieces := []string{"x", "&", `\1`, `\2`, `\3`, `\n`, "\n", `\&`, "a", strings.Repeat("b", 300)}
	done := 0
	for range 12000 {
		r, e := bre.Parse(d.row(parts, 8))
		if e != api.OK {
			continue
		}
		s := d.row([]string{"a", "b", "ab", "c"}, 12)
		if d.below(50) == 0 {
			s = strings.Repeat(s, 1+d.below(30))
		}
		checkAll(t, r, read(t, d.row(pieces, 6)), s)
		done++
	}
	if done < 1200 {
		t.Error(done)
	}
}

// P22.3: matches rise, and do not overlap, and no two of them are the same; each of them is one.
func TestMatchesRise(t *testing.T) {
	d := draw(223)
	parts := []string{"a", "b", ".", "a*", "b*", "$", `\(a\)*`, `\(b*\)`, "[ab]"}
	for range 3000 {
		r, s := parsed(t, d.row(parts, 5)), d.row([]string{"a", "b", "c"}, 40)
		found, e := Matches(r, s)
		if e != api.OK {
			t.Fatal(e)
		}
		last := [2]int{-1, -1}
		for _, m := range found {
			begin, end := m[0][0], m[0][1]
			if begin < last[1] || end <= last[1] || end < begin {
				t.Fatalf("%v, %s: %v", bre.Tree(r), s, whole(found))
			}
			if at, ok, _ := match.Match(r, s, begin, api.Fuel); !ok || at != m {
				t.Fatalf("%v, %s: %v, not %v", bre.Tree(r), s, m, at)
			}
			last = m[0]
		}
		checkBetween(t, r, s, found)
	}
}

// checkBetween: what lies between the matches is there behind the substitution, and nothing else.
func checkBetween(t *testing.T, r *bre.Re, s string, found [][10][2]int) {
	t.Helper()
	between, at := []string{}, 0
	for _, m := range found {
		between = append(between, s[at:m[0][0]])
		at = m[0][1]
	}
	between = append(between, s[at:])
	l, n, e := Line(r, read(t, `\n`), s, 1, true)
	if !slices.Equal(l, between) || n != len(found) || e != api.OK {
		t.Fatalf("%v, %s: %q %d %v, not %q", bre.Tree(r), s, l, n, e, between)
	}
}
