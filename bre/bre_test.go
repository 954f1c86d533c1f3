package bre

import (
	"strconv"
	"strings"
	"testing"

	"inkhorn/api"
	"inkhorn/classes"
	"inkhorn/samples"
)

// told is nodes in few words: a Byte as that byte, a Set as its bytes, and what does not belong to a kind only where it is not zero.
func told(nodes []Node) string {
	var words []string
	for _, n := range nodes {
		words = append(words, toldOne(n))
	}
	return strings.Join(words, " ")
}

// toldOne is a node in few words.
func toldOne(n Node) string {
	var word string
	switch n.Kind {
	case Byte:
		word, n.Byte = quoted(n.Byte), 0
	case Any:
		word = "Any"
	case Set:
		word, n.Set = "Set["+members(n.Set)+"]", [256]bool{}
	case Begin:
		word = "Begin"
	case End:
		word = "End"
	case Ref:
		word, n.N = "Ref"+strconv.Itoa(n.N), 0
	case Group:
		word, n.N, n.Kids = "Group"+strconv.Itoa(n.N)+"("+told(n.Kids)+")", 0, nil
	case Times:
		word = "Times" + strconv.Itoa(n.Min) + "," + strconv.Itoa(n.Max) + "(" + told(n.Kids) + ")"
		n.Min, n.Max, n.Kids = 0, 0, nil
	}
	if n.Byte != 0 || n.Set != [256]bool{} || n.N != 0 || n.Min != 0 || n.Max != 0 || len(n.Kids) > 0 || word == "" {
		return word + "(and what is not of its kind)"
	}
	return word
}

// quoted is a byte, or its number, where it is none that all see.
func quoted(b byte) string {
	if b > 32 && b < 127 {
		return string(rune(b))
	}
	return "#" + strconv.Itoa(int(b))
}

// members is a set's bytes, rising; those of a great one with a ^, and but for those that it lacks.
func members(set [256]bool) string {
	var in, out string
	for b, is := range set {
		if is {
			in += quoted(byte(b))
		} else {
			out += quoted(byte(b))
		}
	}
	if len(in) > len(out) {
		return "^" + out
	}
	return in
}

// count is how many nodes nodes are, kids and all.
func count(nodes []Node) int {
	n := len(nodes)
	for _, node := range nodes {
		n += count(node.Kids)
	}
	return n
}

// walk tells nodes and their kids one by one, from left to right, each one ahead of its kids.
func walk(nodes []Node, tell func(n Node)) {
	for _, n := range nodes {
		tell(n)
		walk(n.Kids, tell)
	}
}

// kindsOf is how many nodes of a kind there are.
func kindsOf(nodes []Node, kind Kind) int {
	found := 0
	walk(nodes, func(n Node) {
		if n.Kind == kind {
			found++
		}
	})
	return found
}

// parsed is the pattern of a text, which must be one.
func parsed(t *testing.T, s string) *Re {
	t.Helper()
	r, e := Parse(s)
	if e != api.OK || r == nil {
		t.Fatalf("Parse(%.80q): %v, %d", s, r, e)
	}
	return r
}

// checkTree tells where a text is not the pattern of these parts, or what is told of it does not go with them.
func checkTree(t *testing.T, s, want string) {
	t.Helper()
	r, e := Parse(s)
	if e != api.OK || r == nil {
		t.Errorf("Parse(%.80q): %v, %d, not %.80s", s, r, e, want)
		return
	}
	tree := Tree(r)
	if got := told(tree); got != want {
		t.Errorf("%.80q: %.200s, not %.200s", s, got, want)
	}
	if Parts(r) != count(tree) || Groups(r) != kindsOf(tree, Group) || Refs(r) != (kindsOf(tree, Ref) > 0) {
		t.Errorf("%.80q: %d nodes, %d groups, %v", s, Parts(r), Groups(r), Refs(r))
	}
}

// checkNone tells where a text is a pattern, or something is answered beside the error.
func checkNone(t *testing.T, s string) {
	t.Helper()
	if r, e := Parse(s); r != nil || e != api.ErrPattern {
		t.Errorf("Parse(%.80q): %v, %d, not ErrPattern alone", s, r, e)
	}
}

// The document's examples.
func TestExamples(t *testing.T) {
	for _, x := range []struct{ pattern, parts string }{
		{`a.*$`, "a Times0,-1(Any) End"},
		{`*a**`, "* Times0,-1(Times0,-1(a))"},
		{`^*a`, "Begin * a"},
		{`\(ab\)*\1`, "Times0,-1(Group1(a b)) Ref1"},
		{`a^b$c`, "a ^ b $ c"},
		{`a\{2\}`, "Times2,2(a)"},
		{`a\{2,\}`, "Times2,-1(a)"},
		{`\(^a$\)`, "Group1(Begin a End)"},
	} {
		checkTree(t, x.pattern, x.parts)
	}
	for _, s := range []string{`\(a`, `a\)`, `\1`, `\(a\1\)`, `a\{3,2\}`, `a\{`, `\{1\}`, `\`, `[a`, `^\{1\}`} {
		checkNone(t, s)
	}
}

// P9.1, P9.2: a pattern without parts is one.
func TestNoParts(t *testing.T) {
	checkTree(t, "", "")
	checkTree(t, `\(\)`, "Group1()")
	checkTree(t, `\(\)\(\(\)\)*\1`, "Group1() Times0,-1(Group2(Group3())) Ref1")
}

// P9.1, P9.2
func TestEachByte(t *testing.T) {
	for b := range 256 {
		s := string([]byte{byte(b)})
		switch s {
		case ".":
			checkTree(t, s, "Any")
		case "^":
			checkTree(t, s, "Begin")
		case "$":
			checkTree(t, s, "End")
		case "[", `\`:
			checkNone(t, s)
		default:
			checkTree(t, s, quoted(s[0]))
			checkTree(t, s+"*", "Times0,-1("+quoted(s[0])+")")
		}
		switch s {
		case ".":
			checkTree(t, "a.b", "a Any b")
		case "*":
			checkTree(t, "a*b", "Times0,-1(a) b")
		case "[":
			checkNone(t, "a[b")
		case `\`:
			checkTree(t, `a\b`, "a b")
		default:
			checkTree(t, "a"+s+"b", "a "+quoted(s[0])+" b")
		}
	}
}

// P9.1, P9.2, P9.3
func TestEachByteBehindABackslash(t *testing.T) {
	for b := range 256 {
		s := `\` + string([]byte{byte(b)})
		switch {
		case strings.IndexByte("(){}", byte(b)) >= 0, '1' <= b && b <= '9':
			checkNone(t, s)
		default:
			checkTree(t, s, quoted(byte(b)))
			checkTree(t, s+"*"+s, "Times0,-1("+quoted(byte(b))+") "+quoted(byte(b)))
			checkTree(t, `\(`+s+`\)`, "Group1("+quoted(byte(b))+")")
			checkTree(t, "^"+s+"$", "Begin "+quoted(byte(b))+" End")
		}
	}
}

// P9.1: which of the two bytes of a pair a backslash belongs to.
func TestBackslashes(t *testing.T) {
	for pattern, parts := range map[string]string{
		`\\`: `\`, `\\(`: `\ (`, `\\)`: `\ )`, `\\\\`: `\ \`, `\\*`: `Times0,-1(\)`, `\\1`: `\ 1`, `\\{1}`: `\ { 1 }`,
		`a{2}`: "a { 2 }", `(a)`: "( a )", `a]`: "a ]", `a,`: "a ,", `\(a\\\)`: `Group1(a \)`, `\(\\(\)`: `Group1(\ ()`,
		`a\.\*\[\]\^\$`: "a . * [ ] ^ $", `\0`: "0", `\n\t`: "n t", `\^a`: "^ a", `\*a`: "* a", `a\$`: "a $", "a\n": "a #10",
	} {
		checkTree(t, pattern, parts)
	}
	for _, s := range []string{`\`, `\\\`, `a\`, `\(\)\`, `*\`, `^\`, `\(\`, `a\{1\`, `a\{1`, `\\\(`, `\\\)`, `\\\{`, `\\\}`} {
		checkNone(t, s)
	}
}

// P9.1, P9.2
func TestBegin(t *testing.T) {
	for pattern, parts := range map[string]string{
		"^": "Begin", "^^": "Begin ^", "^^^": "Begin ^ ^", "^^*": "Begin Times0,-1(^)", "*^": "* ^", "a^": "a ^", ".^": "Any ^",
		`\(^\)`: "Group1(Begin)", `\(^^\)`: "Group1(Begin ^)", `a\(^b\)`: "a Group1(Begin b)", `\(a\)^`: "Group1(a) ^",
		`^\(^a\)`: "Begin Group1(Begin a)", `\(a^\)`: "Group1(a ^)", `\(\(^a\)^\)`: "Group1(Group2(Begin a) ^)", "a*^": "Times0,-1(a) ^",
		`\(a\)\(^b\)^`: "Group1(a) Group2(Begin b) ^", `a^*`: "a Times0,-1(^)", `a^\{2\}`: "a Times2,2(^)", `\^^`: "^ ^", "$^": "$ ^",
	} {
		checkTree(t, pattern, parts)
	}
}

// P9.1, P9.2
func TestEnd(t *testing.T) {
	for pattern, parts := range map[string]string{
		"$": "End", "$$": "$ End", "$$$": "$ $ End", "^$": "Begin End", "$a": "$ a", "$*": "Times0,-1($)", "$**": "Times0,-1(Times0,-1($))",
		`$\{2\}`: "Times2,2($)", "$.": "$ Any", "a$b$": "a $ b End", "*$": "* End", "^*$": "Begin * End", "a*$": "Times0,-1(a) End",
		`\($\)`: "Group1(End)", `\($\)$`: "Group1(End) End", `\($a\)`: "Group1($ a)", `$\(a\)`: "$ Group1(a)", `\($$\)`: "Group1($ End)",
		`\(a$\)b`: "Group1(a End) b", `\(\($\)$\)$`: "Group1(Group2(End) End) End", `\(^$\)`: "Group1(Begin End)", `$\\)`: `$ \ )`,
		`$)`: "$ )", `\$$`: "$ End", `$\$`: "$ $", `\($*\)`: "Group1(Times0,-1($))", `$[)]`: "$ Set[)]", `\(a$\)*`: "Times0,-1(Group1(a End))",
	} {
		checkTree(t, pattern, parts)
	}
	for _, s := range []string{`$\)`, `a$\)`, `$\`, `\(a\)$\)`, `\($`, `$\(`} {
		checkNone(t, s)
	}
}

// P9.1, P9.2
func TestStar(t *testing.T) {
	for pattern, parts := range map[string]string{
		"*": "*", "**": "Times0,-1(*)", "***": "Times0,-1(Times0,-1(*))", "^*": "Begin *", "^**": "Begin Times0,-1(*)", "*a": "* a", "a*": "Times0,-1(a)",
		`\(*\)`: "Group1(*)", `\(**\)*`: "Times0,-1(Group1(Times0,-1(*)))", `\(^*\)`: "Group1(Begin *)", `\(^*a*\)`: "Group1(Begin * Times0,-1(a))",
		`a\(*b\)`: "a Group1(* b)", `\(a\)*`: "Times0,-1(Group1(a))", `\(\)*`: "Times0,-1(Group1())", "[ab]*": "Times0,-1(Set[ab])", ".*": "Times0,-1(Any)",
		`\(a\)\1*`: "Group1(a) Times0,-1(Ref1)", "a*b*": "Times0,-1(a) Times0,-1(b)", `*\{2\}`: "Times2,2(*)", `^*\{2\}`: "Begin Times2,2(*)", "^^*": "Begin Times0,-1(^)",
		`\(a\)\(*\)`: "Group1(a) Group2(*)", "*.": "* Any", `\**`: "Times0,-1(*)",
	} {
		checkTree(t, pattern, parts)
	}
}

// P9.1, P9.2
func TestIntervals(t *testing.T) {
	for pattern, parts := range map[string]string{
		`a\{0\}`: "Times0,0(a)", `a\{0,\}`: "Times0,-1(a)", `a\{0,0\}`: "Times0,0(a)", `a\{0,1\}`: "Times0,1(a)", `a\{2,3\}`: "Times2,3(a)", `a\{3,3\}`: "Times3,3(a)",
		`a\{9,10\}`: "Times9,10(a)", `a\{255\}`: "Times255,255(a)", `a\{255,\}`: "Times255,-1(a)", `a\{0,255\}`: "Times0,255(a)", `a\{255,255\}`: "Times255,255(a)",
		`a\{007\}`: "Times7,7(a)", `a\{000,0002\}`: "Times0,2(a)", `a\{00255\}`: "Times255,255(a)", `a\{000255,0000255\}`: "Times255,255(a)",
		`\(a\)\{2\}`: "Times2,2(Group1(a))", `[ab]\{2\}`: "Times2,2(Set[ab])", `.\{2\}`: "Times2,2(Any)", `\(a\)\1\{2\}`: "Group1(a) Times2,2(Ref1)", `\a\{2\}`: "Times2,2(a)",
		`a*\{2\}`: "Times2,2(Times0,-1(a))", `a\{2\}*`: "Times0,-1(Times2,2(a))", `a\{2\}\{3\}`: "Times3,3(Times2,2(a))", `a\{2\}b\{3\}`: "Times2,2(a) Times3,3(b)",
		`ab\{2\}c`: "a Times2,2(b) c", `a\{1,2\}$`: "Times1,2(a) End", `\(a\{1,2\}\)`: "Group1(Times1,2(a))", `a\{1\}1`: "Times1,1(a) 1", `a\{1\}}`: "Times1,1(a) }",
		`\(^*\{1\}\)`: "Group1(Begin Times1,1(*))", `a\{1\}*$`: "Times0,-1(Times1,1(a)) End",
	} {
		checkTree(t, pattern, parts)
	}
}

// P9.1
func TestNoIntervals(t *testing.T) {
	for _, inside := range []string{
		"", ",", ",1", ",,", "1,,", "1,2,", "1,2,3", "2,1", "1,0", "10,9", "256", "256,", "0,256", "256,256", "1000", "999999999999999999999",
		"18446744073709551616", "18446744073709551617", "4294967297", "0,18446744073709551617", "1,4294967298", "-1", "+1", " 1", "1 ", "1, 2", "a", "1a", "1,a", "1,2a",
		"0x1", "1_0", "1.0", "\xd9\xa1", "*", "\\1", "1\\,2", "1*", "\n1", "1\n", "1\x00", ":", "/", "1:", "1/", "1}", "{1",
	} {
		checkNone(t, `a\{`+inside+`\}`)
		checkNone(t, `\(a\{`+inside+`\}\)`)
		checkNone(t, `a*\{`+inside+`\}*`)
	}
	for _, s := range []string{
		`a\{1`, `a\{1,`, `a\{1,2`, `a\{1\`, `a\{1}`, `a\{`, `a\}`, `\}`, `a\{1\}\}`, `a\{1\{2\}\}`, `a\{1,\{2\}`, `a{1\}`, `a\{1)`, `a\{1\)`, `a\{1,2}\)`,
		`\{1\}`, `^\{1\}`, `\(\{1\}\)`, `\(^\{1\}\)`, `a\(\{1\}b\)`, `\(a\)\(^\{1\}\)`, `\{`, `^\{`, `\(\{`, `\{1\}a`, `^\{1\}a`,
	} {
		checkNone(t, s)
	}
}

// P9.1, P9.2: all that an interval may ask for, and no more.
func TestAllIntervals(t *testing.T) {
	for m := range 300 {
		least := strconv.Itoa(m)
		if m > api.MaxRepeat {
			checkNone(t, `a\{`+least+`\}`)
			checkNone(t, `a\{`+least+`,\}`)
			checkNone(t, `a\{0,`+least+`\}`)
			checkNone(t, `a\{`+least+`,`+least+`\}`)
			continue
		}
		checkTree(t, `a\{`+least+`\}`, "Times"+least+","+least+"(a)")
		checkTree(t, `a\{`+least+`,\}`, "Times"+least+",-1(a)")
		for n := 0; n < 300; n += 5 {
			most := strconv.Itoa(n)
			if m <= n && n <= api.MaxRepeat {
				checkTree(t, `a\{`+least+`,`+most+`\}`, "Times"+least+","+most+"(a)")
			} else {
				checkNone(t, `a\{`+least+`,`+most+`\}`)
			}
		}
	}
}

// P9.1, P9.2
func TestGroups(t *testing.T) {
	for pattern, parts := range map[string]string{
		`\(a\)`: "Group1(a)", `\(a\)\(b\)`: "Group1(a) Group2(b)", `\(a\(b\)c\)d`: "Group1(a Group2(b) c) d", `\(\(a\)\(b\)\)\(c\)`: "Group1(Group2(a) Group3(b)) Group4(c)",
		`a\(b\)c`: "a Group1(b) c", `^\(a\)$`: "Begin Group1(a) End", `\([)\]\)`: `Group1(Set[)\])`, `\([\)]\)`: "Group1(Set[)\\])", `\([\(]\)`: "Group1(Set[(\\])",
		`[\(]`: "Set[(\\]", `\(.\)*.`: "Times0,-1(Group1(Any)) Any", `(\(()\))`: "( Group1(( )) )",
	} {
		checkTree(t, pattern, parts)
	}
	for _, s := range []string{
		`\(`, `\)`, `\(\(`, `\(\(\)`, `\(\)\)`, `\)\(`, `a\)b`, `\(a\)\)`, `\(a\(b\)`, `\(a`, `a\(`, `\(a)`, `(a\)`, `\(a\\)`, `\([\)`, `\(a[\)]`, `*\)`, `^\)`, `.\)`, `\(\)\(`,
	} {
		checkNone(t, s)
	}
}

// P9.1, P9.2
func TestGroupsLimit(t *testing.T) {
	for n := range api.MaxGroups + 1 {
		rowOf, nest := strings.Repeat(`\(a\)`, n), strings.Repeat(`\(`, n)+strings.Repeat(`\)`, n)
		if got := Groups(parsed(t, rowOf)); got != n {
			t.Errorf("%d groups in a row: %d", n, got)
		}
		if got := Groups(parsed(t, nest)); got != n {
			t.Errorf("%d groups, one in the other: %d", n, got)
		}
	}
	checkTree(t, strings.Repeat(`\(`, 9)+strings.Repeat(`\)`, 9)+`\9`,
		"Group1(Group2(Group3(Group4(Group5(Group6(Group7(Group8(Group9())))))))) Ref9")
	for _, n := range []int{10, 11, 19, 200, 1000} {
		checkNone(t, strings.Repeat(`\(a\)`, n))
		checkNone(t, strings.Repeat(`\(`, n)+strings.Repeat(`\)`, n))
	}
	checkNone(t, strings.Repeat(`\(a\)`, 9)+`\(`)
}

// P9.1, P9.2, P9.3
func TestRefs(t *testing.T) {
	for pattern, parts := range map[string]string{
		`\(a\)\1`: "Group1(a) Ref1", `\(a\)\(b\)\1\2`: "Group1(a) Group2(b) Ref1 Ref2", `\(a\)\(b\)\2\1`: "Group1(a) Group2(b) Ref2 Ref1", `\(a\(b\)\2\)`: "Group1(a Group2(b) Ref2)",
		`\(a\)\(\1\)`: "Group1(a) Group2(Ref1)", `\(a\)\11`: "Group1(a) Ref1 1", `\(a\)\1\1`: "Group1(a) Ref1 Ref1", `\(a\)\(\1\)\2`: "Group1(a) Group2(Ref1) Ref2", `\(\)\1`: "Group1() Ref1",
		`\(a\)*\1*`: "Times0,-1(Group1(a)) Times0,-1(Ref1)", `\(a\)\1$`: "Group1(a) Ref1 End", `\(a\)\\1`: `Group1(a) \ 1`, `\(a\)\0`: "Group1(a) 0", `\(a\)[\1]`: `Group1(a) Set[1\]`,
	} {
		checkTree(t, pattern, parts)
	}
	for n := 1; n <= 9; n++ {
		ref := `\` + strconv.Itoa(n)
		for groups := range 10 {
			s := strings.Repeat(`\(a\)`, groups) + ref
			if n <= groups {
				checkTree(t, s, told(Tree(parsed(t, strings.Repeat(`\(a\)`, groups))))+" Ref"+strconv.Itoa(n))
			} else {
				checkNone(t, s)
			}
		}
	}
	for _, s := range []string{`\1`, `\9`, `\(a\)\2`, `\(a\1\)`, `\(\(a\)\1\)`, `\(\(a\1\)\)`, `\(\(a\2\)\)`, `\1\(a\)`, `\(\(a\)\2\)\3`, `\(\2\(a\)\)`, `\(a\)\(b\2\)`, `^\1`, `\1*`} {
		checkNone(t, s)
	}
}

// P9.1, P9.2: each set is that of package classes.
func TestSets(t *testing.T) {
	for _, s := range []string{"[a]", "[^a]", "[]]", "[^]]", "[]a]", "[a-c]", "[-a]", "[a-]", "[[:digit:]]", "[^[:alpha:]x]", "[[a]", `[\]`, `[\n]`, "[*]", "[$]", "[^^]", "[.]", `[\(]`, "[\n]", "[--0]", "[^\xff]"} {
		set, next, e := classes.Parse(s, 0)
		if e != api.OK || next != len(s) {
			t.Fatal(s)
		}
		tree := Tree(parsed(t, s))
		if len(tree) != 1 || tree[0].Kind != Set || tree[0].Set != set || toldOne(tree[0]) != "Set["+members(set)+"]" {
			t.Errorf("%s: %s", s, told(tree))
		}
		checkTree(t, "a"+s+"*b"+s+"$", "a Times0,-1(Set["+members(set)+"]) b Set["+members(set)+"] End")
		checkTree(t, `\(^`+s+`\)`, "Group1(Begin Set["+members(set)+"])")
	}
	for _, s := range []string{"[", "[]", "[^]", "[^", "[a", "[c-a]", "[a--]", "[[:foo:]]", "[[.a.]]", "[[=a=]]", `[\`, "[[:digit:]", "a[", "[a][", `\([\)`} {
		checkNone(t, s)
		checkNone(t, "^a*"+s)
	}
	checkTree(t, "[[]", "Set[[]")
	checkTree(t, "[a]]", "Set[a] ]")
	checkTree(t, "[]]]", "Set[]] ]")
	checkTree(t, "][a]", "] Set[a]")
	checkTree(t, "[*]*", "Times0,-1(Set[*])")
	checkTree(t, "[^]^]^", "Set[^]^] ^")
}

// P9.1, P9.2: each kind of node counts.
func TestPartsLimit(t *testing.T) {
	for _, x := range []struct {
		text  string
		nodes int
	}{
		{"a", 1}, {".", 1}, {"[ab]", 1}, {`\a`, 1}, {`\.`, 1}, {"a*", 2}, {"a**", 3}, {`a\{3\}`, 2}, {`a\{255,255\}*`, 3}, {"aaaaa", 5}, {"[[:alpha:]]*", 2},
	} {
		fits := api.MaxParts / x.nodes
		fill := strings.Repeat("b", api.MaxParts-fits*x.nodes)
		s := strings.Repeat(x.text, fits) + fill
		if got := Parts(parsed(t, s)); got != api.MaxParts {
			t.Errorf("%.80q: %d", s, got)
		}
		for _, more := range []string{"a", ".", "[a]", "$", "*", `\{1\}`, `\(\)`, `\a`, "^"} {
			checkNone(t, s+more)
		}
		checkNone(t, "^"+s)
		checkNone(t, `\(`+s+`\)`)
	}
	for _, s := range []string{
		"^" + strings.Repeat("a", 199), strings.Repeat("a", 199) + "$", "^" + strings.Repeat("a", 198) + "$", `\(` + strings.Repeat("a", 199) + `\)`,
		`\(` + strings.Repeat("a", 197) + `\)\1*`, "a" + strings.Repeat("*", 199), "*" + strings.Repeat("*", 199), "^" + strings.Repeat("*", 199),
		"a" + strings.Repeat(`\{2\}`, 199), `\(\(` + strings.Repeat("a*", 98) + `\)\)*$`, `\(a\)` + strings.Repeat(`\1`, 198), `\(\)` + strings.Repeat("*", 199),
	} {
		if got := Parts(parsed(t, s)); got != api.MaxParts {
			t.Errorf("%.80q: %d", s, got)
		}
		checkNone(t, "a"+s)
		checkNone(t, s+"a")
	}
	checkTree(t, "a"+strings.Repeat("*", 199), strings.Repeat("Times0,-1(", 199)+"a"+strings.Repeat(")", 199))
	for _, n := range []int{201, 202, 255, 256, 257, 1000, 65536, 65537, 65736} {
		checkNone(t, strings.Repeat("a", n))
		checkNone(t, "a"+strings.Repeat("*", n-1))
	}
}

// P9.2, R3
func TestNone(t *testing.T) {
	for _, r := range []*Re{nil, {}, new(Re)} {
		if Tree(r) != nil || Groups(r) != 0 || Refs(r) || Parts(r) != 0 {
			t.Errorf("%v: %s, %d, %v, %d", r, told(Tree(r)), Groups(r), Refs(r), Parts(r))
		}
	}
	if r := parsed(t, ""); len(Tree(r)) != 0 || Groups(r) != 0 || Refs(r) || Parts(r) != 0 {
		t.Error("an empty pattern has something")
	}
}

// P9.3: any text is matched by a pattern, of bytes alone.
func TestAnyText(t *testing.T) {
	check := func(text string) {
		t.Helper()
		var pattern string
		var want []string
		for i := range len(text) {
			b := text[i : i+1]
			if !strings.Contains("(){}123456789", b) {
				pattern += `\`
			}
			pattern += b
			want = append(want, quoted(text[i]))
		}
		checkTree(t, pattern, strings.Join(want, " "))
	}
	for b := range 256 {
		check(string([]byte{byte(b)}))
		check(string([]byte{byte(b), byte(255 - b)}))
	}
	for _, text := range samples.Texts(`\(){*^$1.[]`, 3) {
		check(text)
	}
	check(strings.Repeat(`\`, 200))
	check(strings.Repeat(`^$*.[`, 40))
}

// R4: nobody changes a pattern by what it told, and no two lists of it share memory.
func TestMemory(t *testing.T) {
	r := parsed(t, `\(a[bc]\(d*\)*\)\{2,3\}\2e`)
	want := told(Tree(r))
	tree := Tree(r)
	spoil(tree)
	if got := told(Tree(r)); got != want {
		t.Errorf("%s, not %s", got, want)
	}
	grown := Tree(r)
	walk(grown, func(n Node) {
		_ = append(n.Kids, Node{Kind: Any})
	})
	_ = append(grown, Node{Kind: Any})
	if got := told(grown); got != want {
		t.Errorf("%s, not %s", got, want)
	}
	if other := parsed(t, `\(a[bc]\(d*\)*\)\{2,3\}\2e`); told(Tree(other)) != want {
		t.Error("a pattern hangs on another one")
	}
}

// spoil makes all nodes other ones.
func spoil(nodes []Node) {
	for i := range nodes {
		spoil(nodes[i].Kids)
		nodes[i] = Node{Kind: Any, Byte: 1, N: 7}
	}
}

// R2: what a pattern is does not hang on those that were read ahead of it.
func TestOneBehindTheOther(t *testing.T) {
	before := parsed(t, `\(a\)\1`)
	checkNone(t, `\(b\1\)`)
	checkTree(t, `\(b\)`, "Group1(b)")
	checkNone(t, `\1`)
	checkNone(t, strings.Repeat("a", 201))
	checkTree(t, strings.Repeat("a", 2), "a a")
	if got := told(Tree(before)); got != "Group1(a) Ref1" || Groups(before) != 1 || !Refs(before) || Parts(before) != 3 {
		t.Error(got)
	}
}

// R1: long texts, which are no patterns, or have few parts.
func TestLong(t *testing.T) {
	const many = 1 << 20
	for _, s := range []string{"a", "*", "a*", `\(`, `\)`, `\(\)`, "[", "[a]", "[[:", "[^", `\{`, `a\{`, `a\{1\}`, `\`, `\a`, "^", "$", ".", `\1`, `\(a\)\1`, "1", "\x00", "\xff"} {
		checkNone(t, strings.Repeat(s, many/len(s)+1))
	}
	zeros := strings.Repeat("0", many)
	checkTree(t, `a\{`+zeros+`2,`+zeros+`3\}`, "Times2,3(a)")
	checkNone(t, `a\{`+zeros+`256\}`)
	checkNone(t, `a\{`+strings.Repeat("1", many)+`\}`)
	checkNone(t, `a\{1,`+strings.Repeat("9", many)+`\}`)
	checkTree(t, "["+strings.Repeat("a", many)+"]*", "Times0,-1(Set[a])")
	checkTree(t, "[^"+strings.Repeat("ab", many/2)+"]", "Set[^ab]")
}
