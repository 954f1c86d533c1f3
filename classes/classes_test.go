package classes

import (
	"math"
	"slices"
	"strconv"
	"strings"
	"testing"

	"inkhorn/api"
)

const (
	lower  = "abcdefghijklmnopqrstuvwxyz"
	upper  = "ABCDEFGHIJKLMNOPQRSTUVWXYZ"
	digits = "0123456789"
	punct  = "!\"#$%&'()*+,-./" + ":;<=>?@" + "[\\]^_`" + "{|}~"
	low    = "\x00\x01\x02\x03\x04\x05\x06\x07\x08\x09\x0a\x0b\x0c\x0d\x0e\x0f\x10\x11\x12\x13\x14\x15\x16\x17\x18\x19\x1a\x1b\x1c\x1d\x1e\x1f"
)

// classBytes is each class, and its bytes, one by one.
var classBytes = map[string]string{
	"lower":  lower,
	"upper":  upper,
	"alpha":  lower + upper,
	"digit":  digits,
	"alnum":  lower + upper + digits,
	"xdigit": digits + "abcdefABCDEF",
	"space":  "\t\n\v\f\r ",
	"blank":  "\t ",
	"cntrl":  low + "\x7f",
	"graph":  lower + upper + digits + punct,
	"print":  lower + upper + digits + punct + " ",
	"punct":  punct,
}

// classNames is the names of the classes, always in the same order.
func classNames() []string {
	var names []string
	for name := range classBytes {
		names = append(names, name)
	}
	slices.Sort(names)
	return names
}

// setOf is the set of a text's bytes.
func setOf(bytes string) (set [256]bool) {
	for i := range len(bytes) {
		set[bytes[i]] = true
	}
	return set
}

// allBut is the bytes that a set has not.
func allBut(set [256]bool) (rest [256]bool) {
	for b, in := range set {
		rest[b] = !in
	}
	return rest
}

// from is all bytes from first up to last.
func from(first, last int) (set [256]bool) {
	for b := first; b <= last; b++ {
		set[b] = true
	}
	return set
}

// members is a set's bytes, rising.
func members(set [256]bool) string {
	var bytes []byte
	for b, in := range set {
		if in {
			bytes = append(bytes, byte(b))
		}
	}
	return string(bytes)
}

// told is a set in few words.
func told(set [256]bool) string {
	if bytes := members(set); len(bytes) <= 128 {
		return strconv.Quote(bytes)
	}
	return "all but " + strconv.Quote(members(allBut(set)))
}

// checkSet tells where what stands at a place is not an expression of this set, of this many bytes.
func checkSet(t *testing.T, s string, at, size int, want [256]bool) {
	t.Helper()
	set, next, e := Parse(s, at)
	if e != api.OK || next != at+size || set != want {
		t.Errorf("Parse(%.60q, %d): %s, %d, %d, not %s, %d", s, at, told(set), next, e, told(want), at+size)
	}
}

// checkNone tells where an expression is found at a place, or something is answered beside the error.
func checkNone(t *testing.T, s string, at int) {
	t.Helper()
	set, next, e := Parse(s, at)
	if e != api.ErrPattern || next != 0 || set != [256]bool{} {
		t.Errorf("Parse(%.60q, %d): %s, %d, %d, not ErrPattern alone", s, at, told(set), next, e)
	}
}

// checkParts tells where parts are not of this set between brackets, and of all others with a ^.
func checkParts(t *testing.T, parts string, want [256]bool) {
	t.Helper()
	checkSet(t, "["+parts+"]", 0, len(parts)+2, want)
	checkSet(t, "[^"+parts+"]", 0, len(parts)+3, allBut(want))
}

// checkNoParts tells where parts are some, between brackets, or with a ^.
func checkNoParts(t *testing.T, parts string) {
	t.Helper()
	checkNone(t, "["+parts+"]", 0)
	checkNone(t, "[^"+parts+"]", 0)
}

// The document's examples.
func TestExamples(t *testing.T) {
	for _, x := range []struct{ expression, bytes string }{
		{"[abc]", "abc"}, {"[a-c]", "abc"}, {"[]a]", "]a"}, {"[a-]", "a-"}, {"[-a]", "-a"}, {"[--0]", "-./0"},
		{"[[:digit:]a-f]", "0123456789abcdef"}, {"[a[]", "a["}, {"[[a]", "[a"},
		{"[a-c-e]", "abc-e"}, {"[]-a]", "]^_`a"},
	} {
		checkSet(t, x.expression, 0, len(x.expression), setOf(x.bytes))
	}
	checkSet(t, "[^a-c]", 0, 6, allBut(setOf("abc")))
	checkSet(t, "[^]a]", 0, 5, allBut(setOf("]a")))
	for _, s := range []string{"[c-a]", "[a--]", "[[:foo:]]", "[[.a.]]", "[[=a=]]", "[a", "[]", "[^]"} {
		checkNone(t, s, 0)
	}
}

// P8.1
func TestClass(t *testing.T) {
	for name, bytes := range classBytes {
		if set, ok := Class(name); set != setOf(bytes) || !ok {
			t.Errorf("Class(%q): %s, %v", name, told(set), ok)
		}
	}
}

// P8.1
func TestNoSuchClass(t *testing.T) {
	wrong := []string{
		"", " ", ":", "a", "foo", "word", "ascii", "Alpha", "ALPHA", "alphanum", "hex", "digits", "blank\n", "\x00",
		"[:alpha:]", ":alpha:", "alpha:", ":alpha", "lower upper", "lowerupper", "^alpha", strings.Repeat("alpha", 100000),
	}
	for name := range classBytes {
		wrong = append(wrong, name+" ", " "+name, name+"\x00", name+name, strings.ToUpper(name), name+"s")
		for i := range name {
			wrong = append(wrong, name[:i], "x"+name[:i], name[i:]+"x")
		}
	}
	for _, name := range wrong {
		if set, ok := Class(name); set != [256]bool{} || ok {
			t.Errorf("Class(%.40q): %s, %v", name, told(set), ok)
		}
	}
}

// P8.2: a byte that stands alone, whichever.
func TestParseByte(t *testing.T) {
	for b := range 256 {
		s := string([]byte{byte(b)})
		checkSet(t, "[^"+s+"]", 0, 4, allBut(setOf(s))) // a ^ behind the first one, or a ], too
		if b == '^' {
			checkNone(t, "["+s+"]", 0) // no part
		} else {
			checkSet(t, "["+s+"]", 0, 3, setOf(s))
		}
		if b == ']' {
			checkSet(t, "[a"+s+"]", 0, 3, setOf("a"))
		} else {
			checkParts(t, "a"+s, setOf("a"+s))
		}
	}
	checkParts(t, "]^", setOf("]^"))
	checkParts(t, "aba\x00\n\xffb", setOf("ab\x00\n\xff"))
	checkParts(t, "\\", setOf("\\")) // no backslash hides what is behind it
	checkSet(t, "[\\]]", 0, 3, setOf("\\"))
}

// P8.2: all ranges.
func TestParseRange(t *testing.T) {
	for first := range 256 {
		for last := range 256 {
			parts := string([]byte{byte(first), '-', byte(last)})
			switch {
			case last == ']':
				checkSet(t, "[^"+parts+"]", 0, 5, allBut(setOf(parts[:2])))
			case first > last:
				checkNone(t, "[^"+parts+"]", 0)
			default:
				checkSet(t, "[^"+parts+"]", 0, 6, allBut(from(first, last)))
			}
			if first == '^' {
				continue // there it is no part
			}
			switch {
			case last == ']':
				checkSet(t, "["+parts+"]", 0, 4, setOf(parts[:2]))
			case first > last:
				checkNone(t, "["+parts+"]", 0)
			default:
				checkSet(t, "["+parts+"]", 0, 5, from(first, last))
			}
		}
	}
}

// P8.2: a - that is a range's, and one that is not.
func TestParseHyphen(t *testing.T) {
	for _, x := range []struct{ parts, bytes string }{
		{"-", "-"}, {"--", "-"}, {"---", "-"}, {"----", "-"}, {"-----", "-"}, {"a-a", "a"}, {"a-c-", "abc-"}, {"a-cd-f", "abcdef"},
		{"a-cb-d", "abcd"}, {"-a-c", "-abc"}, {"+--", "+,-"}, {"+---", "+,-"}, {"--/a", "-./a"}, {"a-c--/", "abc-./"}, {"a-c-e-g", "abc-efg"},
		{"a\x00-\x02", "a\x00\x01\x02"}, {"\xfd-\xff", "\xfd\xfe\xff"}, {"]-", "]-"}, {"]-_a", "]^_a"}, {"[-", "[-"}, {"a^-", "a^-"}, {"a^-b", "a^_`b"},
	} {
		checkParts(t, x.parts, setOf(x.bytes))
	}
	for _, parts := range []string{"b-a", "ab-a", "--+", "a--", "a--z", "-a--", "a-cf-d", "]--", "]-[", "]-a-c--+", "\xff-\x00", "a-b-c-d-a-b-z-y"} {
		checkNoParts(t, parts)
	}
}

// P8.2: a ] where the first part begins, and where any other one does.
func TestParseEnd(t *testing.T) {
	for _, x := range []struct {
		expression string
		bytes      string
		behind     string
	}{
		{"[]]", "]", "]"}, {"[]a]", "]a", "]]"}, {"[a]", "a", "]"}, {"[a]", "a", "b]"}, {"[a-]", "a-", "]"}, {"[a-]", "a-", "z]"},
		{"[]-]", "]-", "]"}, {"[]-]", "]-", "a]"}, {"[[]", "[", "]"}, {"[[]", "[", ":alpha:]]"}, {"[ab]", "ab", "[:alpha:]]"},
		{"[[:blank:]]", "\t ", "]"}, {"[[:blank:]]", "\t ", "-z]"}, {"[][:blank:]]", "]\t ", "]"}, {"[.a.]", ".a", "]"}, {"[=a=]", "=a", "]"},
		{"[:alpha:]", ":alph", "]"},
	} {
		checkSet(t, x.expression+x.behind, 0, len(x.expression), setOf(x.bytes))
		checkSet(t, "[^"+x.expression[1:]+x.behind, 0, len(x.expression)+1, allBut(setOf(x.bytes)))
		checkNone(t, x.expression[:len(x.expression)-1], 0)
	}
}

// P8.2: classes as parts.
func TestParseClass(t *testing.T) {
	for _, name := range classNames() {
		class := "[:" + name + ":]"
		bytes := classBytes[name]
		checkParts(t, class, setOf(bytes))
		checkParts(t, class+class, setOf(bytes))
		checkParts(t, "\xff"+class+"\xfe", setOf(bytes+"\xff\xfe"))
		checkParts(t, "]"+class, setOf(bytes+"]"))
		checkParts(t, "-"+class, setOf(bytes+"-"))
		checkParts(t, class+"-", setOf(bytes+"-"))
		checkParts(t, class+"-z", setOf(bytes+"-z")) // no range begins with a class
		checkParts(t, class+"--/", setOf(bytes+"-./"))
		checkParts(t, class+"^", setOf(bytes+"^"))
		checkParts(t, "a-c"+class, setOf(bytes+"abc"))
		for _, other := range classNames() {
			checkParts(t, class+"[:"+other+":]", setOf(bytes+classBytes[other]))
		}
		checkNoParts(t, "A-"+class) // nor ends with one
		checkNoParts(t, "\x00-"+class)
		checkNoParts(t, class+"\x00-"+class)
		checkNone(t, "["+class, 0)
		checkNone(t, "[^"+class, 0)
		for i := range len(class) {
			checkNone(t, "[a"+class[:i], 0)
		}
	}
}

// P8.2: no classes, where there would have to be one.
func TestParseNoClass(t *testing.T) {
	for _, name := range classNames() {
		for _, parts := range []string{
			"[:" + name, "[:" + name + ":", "[:" + name + "]", "[:" + name + ": ]", "[:" + name + " :]", "[: " + name + ":]",
			"[:" + name + "::]", "[::" + name + ":]", "[:^" + name + ":]", "[:" + strings.ToUpper(name) + ":]", "[:" + name[:len(name)-1] + ":]",
			"[:x" + name[:3] + ":]", "[:" + name + name + ":]", "[:" + name + "\n:]", "[." + name + ".]", "[=" + name + "=]", "[:" + name + ".]",
		} {
			checkNoParts(t, parts)
			checkNoParts(t, parts+"[:"+name+":]")
			checkNoParts(t, "[:"+name+":]"+parts)
			checkNoParts(t, "a"+parts)
		}
	}
	for _, parts := range []string{"[:", "[::", "[:]", "[::]", "[:::]", "[:a:]", "[:foo:]", "[:]:]", "[:-:]"} {
		checkNoParts(t, parts)
		checkNoParts(t, "a"+parts)
		checkNoParts(t, "]"+parts)
	}
}

// P8.2: names that are none of classes.
func TestParseNoOtherNames(t *testing.T) {
	for _, kind := range []string{".", "="} {
		for _, behind := range []string{"", "a", kind, kind + "]", "a" + kind + "]", "alpha" + kind + "]", "-" + kind + "]", "]" + kind + "]", "alpha:]"} {
			parts := "[" + kind + behind
			checkNoParts(t, parts)
			checkNoParts(t, "a"+parts)
			checkNoParts(t, "]"+parts)
			checkNoParts(t, "[:alpha:]"+parts)
			checkNoParts(t, "A-"+parts) // where a range ends
			checkNoParts(t, "[-"+parts)
		}
		checkParts(t, kind+"a"+kind, setOf(kind+"a"))
		checkParts(t, "a"+kind+"[", setOf("a["+kind))
	}
	checkNoParts(t, "A-[:")
	checkNoParts(t, "[-[:")
	for _, parts := range []string{"[;", "[a.", "[a:", "[/", "[>", "[[", "[^"} {
		checkParts(t, parts, setOf(parts))
		checkSet(t, "[Z-"+parts+"]", 0, len(parts)+4, setOf("Z"+parts))
	}
	checkParts(t, "Z-[", setOf("Z["))
	checkParts(t, "[-[", setOf("["))
	checkParts(t, "[-^:", setOf("[\\]^:"))
}

// P8.2
func TestParseNoExpression(t *testing.T) {
	for _, s := range []string{"", "a", "]", "^", "^]", "a]", "[", "[^", "[]", "[^]", "[a", "[^a", "[a-", "[a-b", "[]a", "[^]a", "[^^", "a[a]", " [a]", "\\[a]", "{a}", "(a)", "\xff", "[-", "[a-z", "[[", "[[a", "[\n"} {
		checkNone(t, s, 0)
	}
}

// P8.2, R1
func TestParsePlaces(t *testing.T) {
	const s = "x[a]y[^]-_]["
	for _, at := range []int{math.MinInt, math.MinInt + 1, -2000, -2, -1, 0, 2, 3, 4, 6, 7, 8, 9, 10, 11, 12, 13, 14, 2000, math.MaxInt - 1, math.MaxInt} {
		checkNone(t, s, at)
	}
	checkSet(t, s, 1, 3, setOf("a"))
	checkSet(t, s, 5, 6, allBut(setOf("]^_")))
	for _, at := range []int{math.MinInt, -1, 0, 1, math.MaxInt} {
		checkNone(t, "", at)
	}
	for _, at := range []int{-4, -3, -1, 1, 2, 3, 4} {
		checkNone(t, "[a]", at)
	}
}

// P8.2, R1
func TestParseLong(t *testing.T) {
	for _, x := range []struct{ part, bytes string }{{"a", "a"}, {"a-z", lower}, {"[:alpha:]", lower + upper}, {"-", "-"}, {"[", "["}, {"a^", "a^"}} {
		parts := strings.Repeat(x.part, 20000)
		checkParts(t, parts, setOf(x.bytes))
		checkNone(t, "["+parts, 0)
	}
	checkNone(t, strings.Repeat("[", 100000), 0)
	checkNone(t, "["+strings.Repeat("[:", 100000), 0)
	checkNone(t, "[[:"+strings.Repeat("alpha", 100000)+":]]", 0)
	checkSet(t, strings.Repeat("[", 100000)+"]", 99998, 3, setOf("["))
}

// P8.3
func TestSurroundings(t *testing.T) {
	around := []string{"", "a", "[", "]", "^", "-", ":", "[^", "[a-", "-z]", ":]", "[:alpha", "[:alpha:]", "[.", "[=", "\\", "\n", "\x00\xff", "[]", "]]]", "[b]", strings.Repeat("[", 2000)}
	for _, x := range []struct {
		expression string
		want       [256]bool
	}{
		{"[a]", setOf("a")}, {"[^a]", allBut(setOf("a"))}, {"[]]", setOf("]")}, {"[^]]", allBut(setOf("]"))}, {"[^^]", allBut(setOf("^"))},
		{"[a-]", setOf("a-")}, {"[]-]", setOf("]-")}, {"[a[]", setOf("a[")}, {"[[]", setOf("[")}, {"[[:digit:]]", setOf(digits)}, {"[^a[:digit:]-]", allBut(setOf(digits + "a-"))},
	} {
		for _, ahead := range around {
			for _, behind := range around {
				checkSet(t, ahead+x.expression+behind, len(ahead), len(x.expression), x.want)
			}
			checkNone(t, ahead+x.expression[:len(x.expression)-1], len(ahead))
		}
	}
}
