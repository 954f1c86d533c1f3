package bre

import (
	"regexp"
	"strconv"
	"strings"
	"testing"

	"inkhorn/api"
	"inkhorn/classes"
	"inkhorn/samples"
)

// plainInterval is an interval, whatever stands ahead of it.
var plainInterval = regexp.MustCompile(`^\\\{([0-9]+)(,?)([0-9]*)\\\}`)

// plainWords cuts a pattern into what stands together.
func plainWords(s string) (words []string, ok bool) {
	for s != "" {
		n := 1
		switch {
		case strings.HasPrefix(s, `\{`):
			n = len(plainInterval.FindString(s))
		case s[0] == '\\':
			n = min(2, len(s))
			if n == 1 {
				return nil, false
			}
		case s[0] == '[':
			_, next, e := classes.Parse(s, 0)
			if e != api.OK {
				return nil, false
			}
			n = next
		}
		if n == 0 {
			return nil, false
		}
		words = append(words, s[:n])
		s = s[n:]
	}
	return words, true
}

// plainOpen is a row that has not ended: its parts, and the N of the group that it is in, 0 for none.
type plainOpen struct {
	parts []Node
	n     int
}

// plainParse reads a pattern word by word, with the open rows in a list, by the document's words.
func plainParse(s string) (parts []Node, groups int, ok bool) {
	words, ok := plainWords(s)
	if !ok {
		return nil, 0, false
	}
	open := []plainOpen{{}}
	ended := map[int]bool{}
	for i, word := range words {
		row := &open[len(open)-1]
		var last Kind
		if len(row.parts) > 0 {
			last = row.parts[len(row.parts)-1].Kind
		}
		begins := len(row.parts) == 0
		behind := "" // the word behind this one
		if i+1 < len(words) {
			behind = words[i+1]
		}
		var part Node
		switch {
		case word == `\(`:
			groups++
			open = append(open, plainOpen{n: groups})
			continue
		case word == `\)`:
			if len(open) == 1 {
				return nil, 0, false
			}
			part = Node{Kind: Group, N: row.n, Kids: row.parts}
			ended[row.n] = true
			open = open[:len(open)-1]
			row = &open[len(open)-1]
		case word == `\}`:
			return nil, 0, false
		case strings.HasPrefix(word, `\{`), word == "*" && !begins && last != Begin:
			least, most, fits := plainTimes(word)
			if begins || last == Begin || last == End || !fits {
				return nil, 0, false
			}
			end := len(row.parts) - 1
			row.parts[end] = Node{Kind: Times, Min: least, Max: most, Kids: []Node{row.parts[end]}}
			continue
		case len(word) == 2 && word[0] == '\\' && strings.Contains("123456789", word[1:]):
			part = Node{Kind: Ref, N: int(word[1] - '0')}
			if !ended[part.N] {
				return nil, 0, false
			}
		case word == "^" && begins:
			part = Node{Kind: Begin}
		case word == "$" && (i == len(words)-1 || behind == `\)`):
			part = Node{Kind: End}
		case word == ".":
			part = Node{Kind: Any}
		case word[0] == '[':
			part = Node{Kind: Set}
			part.Set, _, _ = classes.Parse(word, 0)
		default:
			part = Node{Kind: Byte, Byte: word[len(word)-1]}
		}
		row.parts = append(row.parts, part)
	}
	parts = open[0].parts
	return parts, groups, len(open) == 1 && groups <= 9 && count(parts) <= 200
}

// plainTimes is how many times a repetition says, and whether it may say so.
func plainTimes(word string) (least, most int, ok bool) {
	if word == "*" {
		return 0, -1, true
	}
	m := plainInterval.FindStringSubmatch(word)
	least, err := strconv.Atoi(m[1])
	if err != nil || least > 255 {
		return 0, 0, false
	}
	switch {
	case m[2] == "":
		return least, least, m[3] == ""
	case m[3] == "":
		return least, -1, true
	}
	most, err = strconv.Atoi(m[3])
	return least, most, err == nil && least <= most && most <= 255
}

// checkPlain tells where a text is not read as by the document's words, and whether it is a pattern.
func checkPlain(t *testing.T, s string) bool {
	t.Helper()
	parts, groups, ok := plainParse(s)
	if !ok {
		checkNone(t, s)
		return false
	}
	checkTree(t, s, told(parts))
	if r, e := Parse(s); e == api.OK {
		if Groups(r) != groups {
			t.Errorf("%q: %d groups, not %d", s, Groups(r), groups)
		}
		checkNumbers(t, s, Tree(r), groups)
	}
	return true
}

// checkNumbers tells where groups are not numbered as they begin, or a reference is not to one that stands whole ahead of it: P9.3.
func checkNumbers(t *testing.T, s string, tree []Node, groups int) {
	t.Helper()
	begun, ended := 0, map[int]bool{}
	var check func(nodes []Node)
	check = func(nodes []Node) {
		for _, n := range nodes {
			if n.Kind == Group {
				begun++
				if n.N != begun {
					t.Errorf("%q: group %d is the one with number %d", s, begun, n.N)
				}
			}
			if n.Kind == Ref && !ended[n.N] {
				t.Errorf("%q: a reference to %d", s, n.N)
			}
			check(n.Kids)
			if n.Kind == Group {
				ended[n.N] = true
			}
		}
	}
	check(tree)
	if begun != groups {
		t.Errorf("%q: %d groups, not %d", s, begun, groups)
	}
}

// P9.1, P9.2, P9.3: all short texts.
func TestPlainTexts(t *testing.T) {
	for _, s := range samples.Texts(`\(){}*^$.[]a1,`, 4) {
		checkPlain(t, s)
	}
	for _, s := range samples.Texts(`\()*^$a`, 5) {
		checkPlain(t, s)
	}
}

// P9.1, P9.2: all short texts behind a \{.
func TestPlainIntervals(t *testing.T) {
	for _, s := range samples.Texts(`\{}12,0*`, 5) {
		checkPlain(t, `a\{`+s)
		checkPlain(t, `\{`+s)
	}
}

// P9.1, P9.2, P9.3: all short rows of what patterns are made of.
func TestPlainRows(t *testing.T) {
	for _, row := range samples.Lists([]string{`\(`, `\)`, `\1`, `\2`, "*", `\{2\}`, "^", "$", "a", "[^a]", "."}, 4) {
		checkPlain(t, strings.Join(row, ""))
	}
	for _, row := range samples.Lists([]string{`\(`, `\)`, `\1`, `\2`, "*", "$"}, 6) {
		checkPlain(t, strings.Join(row, ""))
	}
}

// draw is a row of numbers that look drawn, and are always the same.
type draw uint64

// below draws a number from 0 on, below n.
func (d *draw) below(n int) int {
	*d = *d*6364136223846793005 + 1442695040888963407
	return int(uint64(*d)>>33) % n
}

// P9.1, P9.2, P9.3: long rows, most of which are patterns.
func TestPlainDrawn(t *testing.T) {
	of := []string{"a", "b", ".", "*", `\{0,3\}`, `\{7,\}`, `\{12\}`, "^", "$", "[a]", "[^[:digit:]]", `\.`, `\n`, "x", "1", `\\`, "{", ")", "\n", "\xff"}
	d := draw(9)
	patterns := 0
	for range 2000 {
		s, begun := "", 0
		var open, ended []int
		for range 1 + d.below(60) {
			switch k := d.below(12); {
			case k == 0 && begun < 9:
				begun++
				open = append(open, begun)
				s += `\(`
			case k <= 2 && len(open) > 0:
				ended = append(ended, open[len(open)-1])
				open = open[:len(open)-1]
				s += `\)`
			case k == 3 && len(ended) > 0:
				s += `\` + strconv.Itoa(ended[d.below(len(ended))])
			default:
				s += of[d.below(len(of))]
			}
		}
		s += strings.Repeat(`\)`, len(open))
		if checkPlain(t, s) {
			patterns++
		}
		at := d.below(len(s))
		checkPlain(t, s[:at])
		checkPlain(t, s[at:])
		checkPlain(t, s[:at]+of[d.below(len(of))]+s[at:])
	}
	if patterns < 500 {
		t.Errorf("%d patterns of 2000", patterns)
	}
}

// P9.1: rows about as long as a pattern may be.
func TestPlainLong(t *testing.T) {
	of := []string{"a", ".", "*", "[a]", `\{2\}`, `\(a\)`, `\(b*\)`, `\a`}
	d := draw(99)
	for range 300 {
		s := ""
		for range 150 + d.below(70) {
			k := len(of)
			if strings.Count(s, `\(`) > 6+d.below(4) {
				k = 5
			}
			s += of[d.below(k)]
		}
		checkPlain(t, s)
	}
}
