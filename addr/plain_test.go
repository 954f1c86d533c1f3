package addr

import (
	"math"
	"math/big"
	"regexp"
	"slices"
	"strconv"
	"strings"
	"testing"

	"inkhorn/api"
	"inkhorn/samples"
)

// plainDelimited is what is delimited at a text's beginning, by the document's words, byte by byte.
func plainDelimited(s string, by byte) (text string, next int, closed bool) {
	switch {
	case s == "":
		return "", 0, false
	case s == `\`:
		return `\`, 1, false
	case s[0] == '\\' && s[1] == by:
		text, next, closed = plainDelimited(s[2:], by)
		return s[1:2] + text, next + 2, closed
	case s[0] == '\\':
		text, next, closed = plainDelimited(s[2:], by)
		return s[:2] + text, next + 2, closed
	case s[0] == by:
		return "", 1, true
	}
	text, next, closed = plainDelimited(s[1:], by)
	return s[:1] + text, next + 1, closed
}

// P20.1: all short texts, by all that delimits, from all places.
func TestDelimitedAllShort(t *testing.T) {
	for _, s := range samples.Texts("/\\?an", 5) {
		for _, by := range []byte("/\\?an$\x00\xff") {
			for at := -1; at <= len(s)+2; at++ {
				from := max(at, 0)
				text, next, closed := plainDelimited(s[min(from, len(s)):], by)
				checkDelimited(t, s, at, by, text, from+next, closed)
			}
		}
	}
}

// P20.1: all bytes as delimiters, and as what is delimited.
func TestDelimitedAllBytes(t *testing.T) {
	for by := range 256 {
		for b := range 256 {
			for _, s := range []string{string([]byte{byte(b), 'x'}), string([]byte{'\\', byte(b), byte(by), 'x'})} {
				text, next, closed := plainDelimited(s, byte(by))
				checkDelimited(t, s, 0, byte(by), text, next, closed)
			}
		}
	}
}

// How a base, an addition, and what stands between addresses are written.
const (
	reBase = `\.|\$|[0-9]+|'[a-z]?|/(?:[^/\\]|\\.|\\$)*/?|\?(?:[^?\\]|\\.|\\$)*\??`
	reAdd  = `[ \t]*(?:[+-][0-9]*|[0-9]+)`
)

var (
	reOne  = regexp.MustCompile(`(?s)^[ \t]*(` + reBase + `)?((?:` + reAdd + `)*)`)
	reAdds = regexp.MustCompile(reAdd)
	reSep  = regexp.MustCompile(`^[ \t]*([,;])`)
	reAll  = regexp.MustCompile(`^[ \t]*%`)
	reMany = regexp.MustCompile(`[0-9]{10}`)
)

// plainBase is what a base's text says.
func plainBase(s string) api.Address {
	switch {
	case s == "":
		return none
	case s == ".":
		return dot
	case s == "$":
		return last
	case s[0] == '\'':
		return mk(s[1])
	case s[0] == '/':
		re, _, _ := plainDelimited(s[1:], '/')
		return fore(re)
	case s[0] == '?':
		re, _, _ := plainDelimited(s[1:], '?')
		return rear(re)
	}
	n, _ := strconv.Atoi(s)
	return num(n)
}

// plainAddition is what an addition's text says.
func plainAddition(s string) int {
	for s[0] == ' ' || s[0] == '\t' {
		s = s[1:]
	}
	switch s {
	case "+":
		return 1
	case "-":
		return -1
	}
	n, _ := strconv.Atoi(s)
	return n
}

// plainOne is the address at a text's beginning, by how it is written.
func plainOne(s string) (a api.Address, next int, e api.Errno) {
	parts := reOne.FindStringSubmatch(s)
	base, added := parts[1], parts[2]
	isPattern := base != "" && (base[0] == '/' || base[0] == '?')
	if base == "'" || !isPattern && reMany.MatchString(base) || reMany.MatchString(added) {
		return none, 0, api.ErrAddress
	}
	a = plainBase(base)
	for _, add := range reAdds.FindAllString(added, -1) {
		if a.Kind == api.AdNone {
			a.Kind = api.AdDot
		}
		a.Add += plainAddition(add)
	}
	return a, len(parts[0]), api.OK
}

// plainParse is the range at a text's beginning, by how it is written.
func plainParse(s string) (r api.Range, next int, e api.Errno) {
	if all := reAll.FindString(s); all != "" {
		return row(",", num(1), last), len(all), api.OK
	}
	for {
		a, n, e := plainOne(s[next:])
		if e != api.OK {
			return api.Range{}, 0, e
		}
		next += n
		r.List = append(r.List, a)
		sep := reSep.FindStringSubmatch(s[next:])
		if sep == nil {
			break
		}
		next += len(sep[0])
		r.Semi = append(r.Semi, sep[1] == ";")
	}
	if slices.Equal(r.List, []api.Address{none}) {
		return api.Range{}, next, api.OK
	}
	return r, next, api.OK
}

// checkRead holds what is read of a text against how it is written.
func checkRead(t *testing.T, s string) {
	t.Helper()
	a, next, e := plainOne(s)
	checkOne(t, s, a, next, e)
	r, next, e := plainParse(s)
	checkParse(t, s, r, next, e)
}

// P20.1: all short texts of what addresses are made of.
func TestReadAllShort(t *testing.T) {
	for _, alphabet := range []string{" \t1+-p", ".$,;% 2", "'az/?\\", "/\\?a1 ,", "+1 ,;'b", "\n/+9%\xff"} {
		for _, s := range samples.Texts(alphabet, 6) {
			checkRead(t, s)
		}
	}
	for _, s := range samples.Texts(" \t.$19'aA/?\\+-,;%p\n", 4) {
		checkRead(t, s)
	}
}

// draw is a row of numbers that looks like one by chance.
type draw uint64

func (d *draw) below(n int) int {
	*d = *d*6364136223846793005 + 1442695040888963407
	return int(uint64(*d)>>33) % n
}

// P20.1: drawn long texts.
func TestReadDrawn(t *testing.T) {
	parts := []string{
		" ", "\t", ".", "$", "1", "12", "+", "-", "+3", "-999999999", "'a", "'z", "/ab/", "?a/b?", `/a\/,;`, `?\?`, `\`, "//", "??",
		",", ";", " , ", "; ", "%", "p", "99999", "000", "'", "\n",
	}
	d := draw(20)
	for range 60000 {
		s := ""
		for range 2 + d.below(12) {
			// The last four are drawn less: they mostly end what is read.
			if s += parts[d.below(len(parts)-4)]; d.below(20) == 0 {
				s += parts[d.below(len(parts))]
			}
		}
		checkRead(t, s)
	}
}

// plainRow is the lines that a search looks at, in order.
func plainRow(n, cur int, back bool) []int {
	cur = min(max(cur, 0), n)
	var l []int
	if back {
		cur = max(cur, 1)
		for i := cur - 1; i >= 1; i-- {
			l = append(l, i)
		}
		for i := n; i >= cur; i-- {
			l = append(l, i)
		}
		return l
	}
	for i := cur + 1; i <= n; i++ {
		l = append(l, i)
	}
	for i := 1; i <= cur; i++ {
		l = append(l, i)
	}
	return l
}

// plainSearch is the line that is found by patterns that the library takes so, too, but for + and ?; [ and \( are none.
func plainSearch(v api.View, re string, back bool) (int, api.Errno) {
	if re == "" {
		re = v.Last
	}
	switch re {
	case "":
		return 0, api.ErrNoRE
	case "[", `\(`:
		return 0, api.ErrPattern
	}
	pattern := regexp.MustCompile(strings.NewReplacer("+", `\+`, "?", `\?`).Replace(re))
	for _, i := range plainRow(len(v.Lines), v.Cur, back) {
		if pattern.MatchString(v.Lines[i-1]) {
			return i, api.OK
		}
	}
	return 0, api.ErrSought
}

// P20.2: all short buffers, from all lines, and from others.
func TestSearchAllShort(t *testing.T) {
	for _, l := range samples.Lists([]string{"", "a", "ba"}, 4) {
		for cur := -2; cur <= len(l)+2; cur++ {
			for _, re := range []string{"", "a", "^a$", "b", "q", "^$", "["} {
				for _, used := range []string{"", "b", `\(`} {
					for _, back := range []bool{false, true} {
						v := api.View{Lines: l, Cur: cur, Last: used}
						want, e := plainSearch(v, re, back)
						checkSearch(t, v, re, back, want, e)
					}
				}
			}
		}
	}
}

// plainFar tells whether a number is too far off.
func plainFar(n int) bool {
	return big.NewInt(int64(n)).CmpAbs(big.NewInt(1<<40)) > 0
}

// plainBased is the line that an address that is there says, with sums that have no bounds.
func plainBased(v api.View, a api.Address) (int, api.Errno) {
	if plainFar(a.N) || plainFar(a.Add) {
		return 0, api.ErrAddress
	}
	line, e := 0, api.OK
	switch a.Kind {
	case api.AdDot:
		line = v.Cur
	case api.AdLast:
		line = len(v.Lines)
	case api.AdNumber:
		line = a.N
	case api.AdMark:
		if a.N < 0 || a.N > 25 || v.Marks[a.N] < 1 {
			return 0, api.ErrMark
		}
		line = v.Marks[a.N]
	case api.AdNext:
		line, e = plainSearch(v, a.Re, false)
	case api.AdPrev:
		line, e = plainSearch(v, a.Re, true)
	default:
		return 0, api.ErrAddress
	}
	sum := new(big.Int).Add(big.NewInt(int64(line)), big.NewInt(int64(a.Add)))
	if e == api.OK && !sum.IsInt64() {
		return 0, api.ErrAddress
	}
	return int(sum.Int64()), e
}

// plainEval is what a range says, by the lines of all of its addresses.
func plainEval(v api.View, r api.Range) (a, b, n int, last string, e api.Errno) {
	var said []int
	for i, x := range r.List {
		semi := i+1 < len(r.List) && i < len(r.Semi) && r.Semi[i]
		line, e := 0, api.OK
		switch {
		case x.Kind != api.AdNone:
			line, e = plainBased(v, x)
		case i == 0 && !semi:
			line = 1
		case i == 0:
			line = v.Cur
		case i == 1 && r.List[0].Kind == api.AdNone:
			line = len(v.Lines)
		default:
			line = said[i-1]
		}
		if e == api.OK && (line < 0 || line > len(v.Lines)) {
			e = api.ErrAddress
		}
		if e != api.OK {
			return 0, 0, 0, "", e
		}
		said = append(said, line)
		if (x.Kind == api.AdNext || x.Kind == api.AdPrev) && x.Re != "" {
			v.Last = x.Re
		}
		if semi {
			v.Cur = line
		}
	}
	switch len(said) {
	case 0:
		return 0, 0, 0, v.Last, api.OK
	case 1:
		return said[0], said[0], 1, v.Last, api.OK
	}
	two := said[len(said)-2:]
	if two[0] > two[1] {
		return 0, 0, 0, "", api.ErrAddress
	}
	return two[0], two[1], 2, v.Last, api.OK
}

// checkSaid holds what a range says against the document's words, and what follows of them.
func checkSaid(t *testing.T, v api.View, r api.Range) {
	t.Helper()
	a, b, n, used, e := plainEval(v, r)
	checkEval(t, v, r, a, b, n, used, e)
	if a, b, _, _, e := Eval(v, r); e == api.OK && (a < 0 || a > b || b > len(v.Lines)) {
		t.Errorf("Eval of %v in %d lines: %d, %d", r, len(v.Lines), a, b)
	}
}

// P20.3, P20.4: all short texts of addresses, in views of few lines.
func TestEvalAllShort(t *testing.T) {
	views := []api.View{
		{}, {Cur: 1}, {Lines: []string{"a"}, Cur: 1, Marks: api.Marks{1}, Last: "a"},
		{Lines: []string{"a", "b", "a"}, Cur: 2, Marks: api.Marks{3}},
		{Lines: []string{"b", "a", "b", "a", "c"}, Cur: 4, Marks: api.Marks{9}, Last: "b"},
		{Lines: []string{"a", "b", "a"}, Cur: 5}, {Lines: []string{"a", "b"}, Cur: -1},
	}
	for _, alphabet := range []string{",;12$", ".+-1,;", "/a?,;", "'a,;$", "/b?;1+"} {
		for _, s := range samples.Texts(alphabet, 5) {
			r, _, e := Parse(s)
			if e != api.OK {
				continue
			}
			for _, v := range views {
				checkSaid(t, v, r)
			}
		}
	}
}

// numbers are those of addresses, marks and current lines that are drawn.
var numbers = []int{
	0, 1, 2, 3, 4, 5, 6, 7, 8, 9, -1, -2, -5, 25, 26, 27, 255, 256, -26, -256, 1 << 32, 1 << 40, 1<<40 + 1, 1<<40 - 3, -1 << 40, -1<<40 - 1, 3 - 1<<40,
	math.MaxInt, math.MaxInt - 2, math.MinInt, math.MinInt + 2,
}

// number is one of them, but mostly a small one.
func (d *draw) number() int {
	if d.below(6) == 0 {
		return numbers[d.below(len(numbers))]
	}
	return d.below(6) - 1
}

// address is one that may be there, or say nothing.
func (d *draw) address() api.Address {
	re := []string{"", "", "a", "^b", "c$", "^$", ".", "q", "[", `\(`}
	a := api.Address{Kind: d.below(7), N: d.number(), Re: re[d.below(len(re))]}
	if d.below(30) == 0 {
		a.Kind = d.number()
	}
	if d.below(2) == 0 {
		a.Add = d.number()
	}
	return a
}

// view is one of few lines, with marks and a current line that may be beyond them.
func (d *draw) view() api.View {
	texts := []string{"", "a", "b", "ab", "c", "bc", "abc"}
	v := api.View{Cur: d.number(), Last: []string{"", "a", "c", "["}[d.below(4)]}
	for range d.below(9) {
		v.Lines = append(v.Lines, texts[d.below(len(texts))])
	}
	if d.below(3) > 0 {
		v.Cur = d.below(len(v.Lines) + 1)
	}
	for i := range v.Marks {
		v.Marks[i] = d.number()
	}
	return v
}

// P20.3, P20.4: drawn ranges in drawn views.
func TestEvalDrawn(t *testing.T) {
	d := draw(203)
	for range 150000 {
		v := d.view()
		var r api.Range
		for range d.below(5) {
			r.List = append(r.List, d.address())
		}
		for range d.below(len(r.List) + 2) {
			r.Semi = append(r.Semi, d.below(2) == 0)
		}
		checkSaid(t, v, r)
	}
}

// P20.3: the greatest buffers, each line of which is another one.
func TestEvalGreat(t *testing.T) {
	v := api.View{Cur: 1000}
	for i := range api.MaxLines {
		v.Lines = append(v.Lines, strconv.Itoa(i+1))
	}
	d := draw(2000)
	for range 150 {
		n := 1 + d.below(api.MaxLines)
		a := []api.Address{num(n), fore("^" + strconv.Itoa(n) + "$"), rear("^" + strconv.Itoa(n) + "$"), plus(last, n-api.MaxLines), plus(dot, n-1000)}[d.below(5)]
		checkSaid(t, v, row("", a))
		if line, _, _, _, e := Eval(v, row("", a)); line != n || e != api.OK {
			t.Error(a, line, e)
		}
	}
	checkLines(t, v, "%", 1, 2000, 2, "", api.OK)
	checkLines(t, v, "2000;/^1$/,$", 1, 2000, 2, "^1$", api.OK)
}
