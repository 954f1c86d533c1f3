package match

import (
	"math"
	"slices"
	"strconv"
	"strings"
	"testing"

	"inkhorn/api"
	"inkhorn/bre"
	"inkhorn/samples"
)

// plainPart is the stretch of a node in a way, by its length: what is within is a Group's row (one) or a Times' turns.
type plainPart struct {
	length int
	within []plainWay
}

// plainWay is a way of a row: its nodes' stretches, where it ends, and what the groups have behind it.
type plainWay struct {
	parts  []plainPart
	end    int
	groups [10][2]int
}

// plainText is a text of which ways are told, and how many of them there may be.
type plainText struct {
	s    string
	room int
}

// row tells all ways of a row from a place on.
func (p *plainText) row(row []bre.Node, at int, groups [10][2]int) []plainWay {
	all := []plainWay{{end: at, groups: groups}}
	for _, n := range row {
		var longer []plainWay
		for _, w := range all {
			for _, one := range p.node(n, w.end, w.groups) {
				one.parts = append(slices.Clone(w.parts), one.parts...)
				longer = append(longer, one)
			}
		}
		all = longer
		p.room -= len(all)
		if p.room < 0 {
			return nil
		}
	}
	return all
}

// node tells all ways of a row that is one node.
func (p *plainText) node(n bre.Node, at int, groups [10][2]int) []plainWay {
	one := func(length int, ok bool) []plainWay {
		if !ok {
			return nil
		}
		return []plainWay{{parts: []plainPart{{length: length}}, end: at + length, groups: groups}}
	}
	inside := at < len(p.s)
	switch n.Kind {
	case bre.Byte:
		return one(1, inside && p.s[at] == n.Byte)
	case bre.Any:
		return one(1, inside)
	case bre.Set:
		return one(1, inside && n.Set[p.s[at]])
	case bre.Begin:
		return one(0, at == 0)
	case bre.End:
		return one(0, !inside)
	case bre.Ref:
		had := groups[n.N]
		if had[0] == -1 {
			return nil
		}
		text := p.s[had[0]:had[1]]
		return one(len(text), strings.HasPrefix(p.s[at:], text))
	case bre.Group:
		var all []plainWay
		for _, w := range p.row(n.Kids, at, groups) {
			behind := w.groups
			behind[n.N] = [2]int{at, w.end}
			all = append(all, plainWay{parts: []plainPart{{length: w.end - at, within: []plainWay{w}}}, end: w.end, groups: behind})
		}
		return all
	}
	return p.times(n, at, groups)
}

// plainGroups tells the groups in a row.
func plainGroups(row []bre.Node) (all []int) {
	for _, n := range row {
		if n.Kind == bre.Group {
			all = append(all, n.N)
		}
		all = append(all, plainGroups(n.Kids)...)
	}
	return all
}

// times tells all ways of a Times.
func (p *plainText) times(n bre.Node, at int, groups [10][2]int) []plainWay {
	var all []plainWay
	left := []plainWay{{parts: []plainPart{{}}, end: at, groups: groups}}
	for k := 0; len(left) > 0; k++ {
		if k >= n.Min {
			all = append(all, left...)
		}
		if k == n.Max {
			break
		}
		var more []plainWay
		for _, w := range left {
			begin := w.groups
			for _, g := range plainGroups(n.Kids) {
				begin[g] = [2]int{-1, -1}
			}
			for _, turn := range p.row(n.Kids, w.end, begin) {
				if turn.end > w.end || k < n.Min {
					done := plainPart{length: turn.end - at, within: append(slices.Clone(w.parts[0].within), turn)}
					more = append(more, plainWay{parts: []plainPart{done}, end: turn.end, groups: turn.groups})
				}
			}
		}
		left = more
		p.room -= len(left)
		if p.room < 0 {
			return nil
		}
	}
	return all
}

// plainBetter holds two ways that begin alike against each other: 1: the first one is better, -1: the other one, 0: they are the same.
func plainBetter(a, b plainWay) int {
	if a.end != b.end {
		return plainSign(a.end - b.end)
	}
	for i := range a.parts {
		if d := a.parts[i].length - b.parts[i].length; d != 0 {
			return plainSign(d)
		}
	}
	for i := range a.parts {
		if c := plainWithin(a.parts[i].within, b.parts[i].within); c != 0 {
			return c
		}
	}
	return 0
}

// plainWithin holds turns, or the one row of a group, against others.
func plainWithin(a, b []plainWay) int {
	for i := range min(len(a), len(b)) {
		if a[i].end != b[i].end {
			return plainSign(a[i].end - b[i].end)
		}
	}
	if len(a) != len(b) {
		panic("ways of one length, of which one has more turns")
	}
	for i := range a {
		if c := plainBetter(a[i], b[i]); c != 0 {
			return c
		}
	}
	return 0
}

func plainSign(n int) int {
	if n < 0 {
		return -1
	}
	return 1
}

// plainMatch tells a match by all ways there are; known is false where there are too many.
func plainMatch(tree []bre.Node, s string, from, room int) (spans [10][2]int, ok, known bool) {
	p := &plainText{s: s, room: room}
	for at := from; 0 <= at && at <= len(s); at++ {
		ways := p.row(tree, at, noSpans())
		if p.room < 0 {
			return spans, false, false
		}
		if len(ways) > 0 {
			best := ways[0]
			for _, w := range ways[1:] {
				if c := plainBetter(w, best); c > 0 {
					best = w
				} else if c == 0 {
					panic("a way that is there twice")
				}
			}
			best.groups[0] = [2]int{at, best.end}
			return best.groups, true, true
		}
	}
	return spans, false, true
}

// plainTries counts tries, by the document's search.
type plainTries struct {
	s     string
	tries int
	ways  int
}

func (p *plainTries) row(row []bre.Node, at int, groups [10][2]int, then func(at int, groups [10][2]int)) {
	if p.tries > 1000000 {
		return
	}
	if len(row) == 0 {
		then(at, groups)
		return
	}
	n, rest := row[0], row[1:]
	switch n.Kind {
	case bre.Group:
		p.row(n.Kids, at, groups, func(end int, groups [10][2]int) {
			groups[n.N] = [2]int{at, end}
			p.row(rest, end, groups, then)
		})
	case bre.Times:
		p.times(n, rest, 0, at, groups, then)
	default:
		p.tries++
		for _, w := range (&plainText{s: p.s, room: 9}).node(n, at, groups) {
			p.row(rest, w.end, groups, then)
		}
	}
}

func (p *plainTries) times(n bre.Node, rest []bre.Node, k, at int, groups [10][2]int, then func(at int, groups [10][2]int)) {
	if k >= n.Min {
		p.row(rest, at, groups, then)
	}
	if k < n.Max || n.Max == -1 {
		for _, g := range plainGroups(n.Kids) {
			groups[g] = [2]int{-1, -1}
		}
		p.row(n.Kids, at, groups, func(end int, groups [10][2]int) {
			if end > at || k < n.Min {
				p.times(n, rest, k+1, end, groups, then)
			}
		})
	}
}

// plainUnits is how many tries a match takes.
func plainUnits(tree []bre.Node, s string, from int) int {
	p := &plainTries{s: s}
	for at := from; 0 <= at && at <= len(s) && p.ways == 0; at++ {
		p.row(tree, at, noSpans(), func(int, [10][2]int) { p.ways++ })
	}
	return p.tries
}

// checkPlain holds a match against that of the plain words.
func checkPlain(t *testing.T, re, s string, from, room int) (known bool) {
	t.Helper()
	r, e := bre.Parse(re)
	if e != api.OK {
		return false
	}
	tree := bre.Tree(r)
	want, ok, known := plainMatch(tree, s, from, room)
	if !known {
		return false
	}
	if got, found, e := Match(r, s, from, math.MaxInt); got != want || found != ok || e != api.OK {
		t.Fatalf("%s, %q from %d: %v %v %v, not %v %v", re, s, from, got, found, e, want, ok)
	}
	if !bre.Refs(r) {
		if got, found, e := Match(r, s, from, -1); got != want || found != ok || e != api.OK {
			t.Fatalf("%s, %q from %d, without fuel: %v %v %v, not %v %v", re, s, from, got, found, e, want, ok)
		}
		return true
	}
	units := plainUnits(tree, s, from)
	if got, found, e := Match(r, s, from, units); got != want || found != ok || e != api.OK {
		t.Fatalf("%s, %q from %d, fuel %d: %v %v %v, not %v %v", re, s, from, units, got, found, e, want, ok)
	}
	if got, found, e := Match(r, s, from, units-1); got != [10][2]int{} || found || e != api.ErrFuel {
		t.Fatalf("%s, %q from %d, fuel %d: %v %v %v", re, s, from, units-1, got, found, e)
	}
	return true
}

// P10.1: all short patterns and texts; those that begin with a group are one longer.
func TestPlain(t *testing.T) {
	words := []string{"a", "b", ".", "*", `\(`, `\)`, `\{1,2\}`, `\{2\}`, `\1`, "^", "$"}
	texts := samples.Texts("ab", 3)
	rows := samples.Lists(words, 4)
	for _, first := range words {
		t.Run(first, func(t *testing.T) {
			t.Parallel()
			for _, row := range rows {
				re := first + strings.Join(row, "")
				if _, e := bre.Parse(re); e != api.OK || len(row) == 4 && first != `\(` {
					continue
				}
				for _, s := range texts {
					checkPlain(t, re, s, 0, 100000)
				}
			}
		})
	}
}

// draw draws numbers, the same ones each time.
type draw uint64

// below draws a number from 0 on, below n.
func (d *draw) below(n int) int {
	*d = *d*6364136223846793005 + 1442695040888963407
	return int(uint64(*d)>>33) % n
}

// one draws one of some words.
func (d *draw) one(of []string) string {
	return of[d.below(len(of))]
}

// row draws a row of parts, with groups in groups up to some depth, and with references, if there may be any.
func (d *draw) row(depth int, refs bool) string {
	parts := []string{"a", "a", "b", ".", "[ab]", "[^a]"}
	if refs {
		parts = append(parts, `\1`, `\1`, `\2`, `\3`)
	}
	times := []string{"", "", "", "", "*", "*", `\{2\}`, `\{0,1\}`, `\{1,\}`, `\{1,2\}`, `\{2,3\}`, `\{0\}`, `\{2,\}`, `\{0,2\}*`, "**", `*\{2\}`, `\{2\}\{1,2\}`, `\{0,2\}\{2\}`}
	s := ""
	if d.below(12) == 0 {
		s = "^"
	}
	for range d.below(4) {
		if depth > 0 && d.below(2) == 0 {
			s += `\(` + d.row(depth-1, refs) + `\)`
		} else {
			s += d.one(parts)
		}
		s += d.one(times)
	}
	if d.below(12) == 0 {
		s += "$"
	}
	return s
}

// pieces draws a row of which most may be left out, so that what is longest first is often not longest in all.
func (d *draw) pieces(depth int) string {
	of := []string{"a", "b", `\(ab\)`, `\(ba\)`, `\(aab\)`, `\(abb\)`, ".", "ab"}
	times := []string{`\{0,1\}`, `\{0,1\}`, `\{0,1\}`, "*", `\{1,2\}`, `\{0,2\}`, `\{2\}`, ""}
	s := ""
	for range 2 + d.below(2) {
		if depth > 0 && d.below(3) > 0 {
			s += `\(` + d.pieces(depth-1) + `\)`
		} else {
			s += d.one(of)
		}
		s += d.one(times)
	}
	return s
}

// text draws a text of as and bs.
func (d *draw) text(most int) string {
	s := ""
	for range d.below(most + 1) {
		s += d.one([]string{"a", "a", "b"})
	}
	return s
}

// P10.1: longer patterns and texts, from any place.
func TestPlainDrawn(t *testing.T) {
	for seed := range 8 {
		t.Run(strconv.Itoa(seed), func(t *testing.T) {
			t.Parallel()
			d := draw(seed)
			known := 0
			for range 2500 {
				re, s := d.row(3, d.below(2) == 0), d.text(7)
				if checkPlain(t, re, s, d.below(len(s)+2)-d.below(2), 20000) {
					known++
				}
			}
			if known < 1000 {
				t.Errorf("just %d are known", known)
			}
		})
	}
}

// P10.1: patterns with many ways that end alike; by all ways told, and with an empty group that is referred to.
func TestPlainPieces(t *testing.T) {
	d := draw(11)
	known := 0
	for range 5000 {
		re, s := d.pieces(d.below(2)), d.text(8)
		if d.below(2) == 0 {
			re = `\(` + re + `\)` + d.one([]string{"*", `\{0,2\}`, `\{1,3\}`}) + d.one([]string{".*", "b*", "a*b*"})
		}
		r, e := bre.Parse(re)
		if e != api.OK || bre.Groups(r) > 8 || !checkPlain(t, re, s, 0, 2000) {
			continue
		}
		known++
		checkPlain(t, re+`\(\)\`+strconv.Itoa(bre.Groups(r)+1), s, 0, 2000)
	}
	if known < 2500 {
		t.Errorf("just %d are known", known)
	}
}

// P10.1: what matches in a text matches as well behind other bytes, and far from the text's beginning.
func TestShifted(t *testing.T) {
	d := draw(4)
	for range 6000 {
		re, s := d.row(2, d.below(4) == 0), d.text(12)
		if strings.Contains(re, `^`) {
			continue
		}
		if _, e := bre.Parse(re); e != api.OK {
			continue
		}
		by := 52 + d.below(80)
		r := parsed(t, re)
		want, ok, e := Match(r, s, 0, 5000)
		for n := range want {
			if ok && want[n] != none {
				want[n][0] += by
				want[n][1] += by
			}
		}
		if got, found, f := Match(r, strings.Repeat("b", by)+s, by, 5000); got != want || found != ok || f != e {
			t.Fatalf("%s, %q behind %d bytes: %v %v %v, not %v %v %v", re, s, by, got, found, f, want, ok, e)
		}
	}
}

// P10.1: a pattern with a reference to an empty group behind it is gone through way by way: the stretches are those without it.
func TestTwoWays(t *testing.T) {
	d := draw(100)
	known := 0
	for range 1200 {
		re, s := d.row(2, false), d.text(150)
		r, e := bre.Parse(re)
		if e != api.OK || bre.Groups(r) > 7 {
			continue
		}
		behind := bre.Groups(r) + 2
		from := d.below(len(s) + 1)
		want, ok, e := Match(parsed(t, `\(`+re+`\)\(\)\`+strconv.Itoa(behind)), s, from, 3000)
		if e != api.OK {
			continue
		}
		known++
		if ok {
			copy(want[1:], want[2:behind])
			want[behind-1], want[behind] = none, none
		}
		if got, found, e := Match(r, s, from, 0); got != want || found != ok || e != api.OK {
			t.Fatalf("%s, %q from %d: %v %v %v, not %v %v", re, s, from, got, found, e, want, ok)
		}
	}
	if known < 600 {
		t.Errorf("just %d are known", known)
	}
}
