package nums

import (
	"math"
	"slices"
	"strconv"
	"strings"
	"testing"

	"inkhorn/samples"
)

// digitsOf is a number's digits, said by division.
func digitsOf(n int) string {
	digits := ""
	for {
		digits = string(rune('0'+n%10)) + digits
		if n /= 10; n == 0 {
			return digits
		}
	}
}

// numbers are some ints from 0 on, with those at which the count of digits changes.
func numbers() []int {
	all := []int{math.MaxInt, math.MaxInt - 1, math.MaxInt32, math.MaxInt32 + 1, 1 << 31, 300}
	for n := range 1200 {
		all = append(all, n)
	}
	for n := 1; n <= math.MaxInt/10; n *= 10 {
		all = append(all, n-1, n, n+1, n*9)
	}
	return all
}

// someTexts are texts of which those that look like numbers, or like what is put, are the likeliest to be misread.
func someTexts() []string {
	return append(samples.Texts("0:1", 3), "\n", "\x00\xff\n", "\u00e9", "x:y", "2:1:a0:", "-1", "300:", strings.Repeat("9:", 700))
}

func isNumber(s string, at, n, next int) bool {
	got, behind, ok := Get(s, at)
	return ok && got == n && behind == next
}

func isText(s string, at int, t string, next int) bool {
	got, behind, ok := GetText(s, at)
	return ok && got == t && behind == next
}

func isList(s string, at int, l []string, next int) bool {
	got, behind, ok := GetList(s, at)
	return ok && slices.Equal(got, l) && behind == next
}

func noNumber(s string, at int) bool {
	n, next, ok := Get(s, at)
	return n == 0 && next == 0 && !ok
}

func noText(s string, at int) bool {
	t, next, ok := GetText(s, at)
	return t == "" && next == 0 && !ok
}

func noList(s string, at int) bool {
	l, next, ok := GetList(s, at)
	return len(l) == 0 && next == 0 && !ok
}

// P2.1
func TestPut(t *testing.T) {
	for _, x := range []struct {
		n    int
		want string
	}{{0, "0:"}, {300, "300:"}, {-1, ""}, {1, "1:"}, {9, "9:"}, {10, "10:"}, {2147483647, "2147483647:"}, {-300, ""}, {math.MinInt, ""}} {
		if s := Put(x.n); s != x.want {
			t.Errorf("Put(%d): %q", x.n, s)
		}
	}
	for _, n := range numbers() {
		if s := Put(n); s != digitsOf(n)+":" {
			t.Errorf("Put(%d): %q", n, s)
		}
	}
}

// P2.1
func TestPutText(t *testing.T) {
	long := strings.Repeat("x", 12345)
	for _, x := range []struct{ t, want string }{
		{"", "0:"},
		{"abc", "3:abc"},
		{":", "1::"},
		{"0:", "2:0:"},
		{"\n", "1:\n"},
		{"\u00e9", "2:\u00e9"}, // bytes are counted, not runes
		{"\xff\x00", "2:\xff\x00"},
		{"0123456789", "10:0123456789"},
		{long, "12345:" + long},
	} {
		if s := PutText(x.t); s != x.want {
			t.Errorf("PutText(%.20q): %.20q", x.t, s)
		}
	}
}

// P2.1
func TestPutList(t *testing.T) {
	for _, x := range []struct {
		l    []string
		want string
	}{
		{nil, "0:"},
		{[]string{}, "0:"},
		{[]string{""}, "1:0:"},
		{[]string{"a", ""}, "2:1:a0:"},
		{[]string{"", "a"}, "2:0:1:a"},
		{[]string{"a\nb", "1:"}, "2:3:a\nb2:1:"},
		{[]string{"\u00e9", "\xff\x00\u00e9"}, "2:2:\u00e94:\xff\x00\u00e9"},
		{make([]string, 3000), "3000:" + strings.Repeat("0:", 3000)},
	} {
		if s := PutList(x.l); s != x.want {
			t.Errorf("PutList(%.20q): %.20q", x.l, s)
		}
	}
	for _, l := range samples.Lists([]string{"", "a", "1:", "\xff\n"}, 4) {
		want := Put(len(l))
		for _, x := range l {
			want += PutText(x)
		}
		if s := PutList(l); s != want {
			t.Errorf("PutList(%q): %q", l, s)
		}
	}
}

// P2.2
func TestGet(t *testing.T) {
	for _, x := range []struct {
		s           string
		at, n, next int
	}{
		{"300:x", 0, 300, 4},
		{"300:x", 2, 0, 4},
		{"0:", 0, 0, 2},
		{"x7:", 1, 7, 3},
		{"10:20:", 3, 20, 6},
		{"1::", 0, 1, 2},
		{"-5:", 1, 5, 3},
		{"007:", 2, 7, 4},
		{"\xff12:", 1, 12, 4},
		{Put(math.MaxInt), 0, math.MaxInt, len(Put(math.MaxInt))},
		{"9" + Put(math.MaxInt) + "9", 1, math.MaxInt, 1 + len(Put(math.MaxInt))},
	} {
		if !isNumber(x.s, x.at, x.n, x.next) {
			n, next, ok := Get(x.s, x.at)
			t.Errorf("Get(%q, %d): %d, %d, %v", x.s, x.at, n, next, ok)
		}
	}
}

// P2.2
func TestGetOfNone(t *testing.T) {
	tooGreat := strconv.FormatUint(math.MaxInt+1, 10)
	for _, x := range []struct {
		s  string
		at int
	}{
		{"300:x", 1}, {"300:x", 3}, {"300:x", 4}, {"300:x", 5},
		{"", 0}, {"300", 0}, {":", 0}, {"x", 0}, {"1x:", 0}, {"1 :", 0}, {" 1:", 0},
		{"007:", 0}, {"007:", 1}, {"00:", 0}, {"01:", 0},
		{"+3:", 0}, {"-3:", 0}, {"-0:", 0}, {"+0:", 0}, {"--1:", 0},
		{"0x1:", 0}, {"0b1:", 0}, {"1_0:", 0}, {"1e1:", 0}, {"1.0:", 0}, {"1,:", 0}, {"a:", 0},
		{"\u0663:", 0}, {"1\x00:", 0}, {"1\n:", 0}, {"1;", 0}, {"1\uff1a", 0},
		{tooGreat + ":", 0},
		{"9999999999999999999:", 0},                                                              // as many digits as the greatest int has
		{"18446744073709551616:", 0}, {"18446744073709551617:", 0}, {"00000000000000000001:", 0}, // 2^64 and 1 more: no wrap-round
		{strings.Repeat("9", 5000) + ":", 0}, {strings.Repeat("0", 5000) + ":", 0},
		{"7:", -1}, {"7:", 3}, {"7:", math.MaxInt}, {"7:", math.MinInt}, {"", 1}, {"", -1},
	} {
		if !noNumber(x.s, x.at) || !noText(x.s, x.at) || !noList(x.s, x.at) {
			t.Errorf("something stands in %.30q at %d", x.s, x.at)
		}
	}
}

// P2.2
func TestGetText(t *testing.T) {
	long := strings.Repeat("1:", 50000)
	for _, x := range []struct {
		s    string
		at   int
		t    string
		next int
	}{
		{"2:xyz", 0, "xy", 4},
		{"0:", 0, "", 2},
		{"0:x", 0, "", 2},
		{"3:abc", 0, "abc", 5},
		{"1::", 0, ":", 3},
		{"2:1:", 0, "1:", 4},
		{"12:xy", 1, "xy", 5},
		{"2:\u00e9\u00e9", 0, "\u00e9", 4},
		{"3:\n\x00\xff", 0, "\n\x00\xff", 5},
		{"100000:" + long, 0, long, 100007},
	} {
		if !isText(x.s, x.at, x.t, x.next) {
			got, next, ok := GetText(x.s, x.at)
			t.Errorf("GetText(%.20q, %d): %.20q, %d, %v", x.s, x.at, got, next, ok)
		}
	}
	for _, x := range []struct {
		s  string
		at int
	}{
		{"2:x", 0}, {"1:", 0}, {"3:ab", 0}, {"03:abc", 0}, {"+1:a", 0}, {"-1:a", 0}, {"abc", 0}, {":abc", 0},
		{"3:abc", 1}, {"3:abc", 2}, {"3:abc", 5}, {"3:abc", 6}, {"3:abc", -1},
		{Put(math.MaxInt), 0}, {Put(math.MaxInt) + "abc", 0}, {"x" + Put(math.MaxInt-1) + "abc", 1},
	} {
		if !noText(x.s, x.at) {
			t.Errorf("a text stands in %q at %d", x.s, x.at)
		}
	}
}

// P2.2
func TestGetList(t *testing.T) {
	for _, x := range []struct {
		s    string
		at   int
		l    []string
		next int
	}{
		{"2:1:a0:", 0, []string{"a", ""}, 7},
		{"0:", 0, nil, 2},
		{"0:1:a", 0, nil, 2},
		{"1:0:", 0, []string{""}, 4},
		{"1:3:abcd", 0, []string{"abc"}, 7},
		{"x2:2:1:1::y", 1, []string{"1:", ":"}, 10},
		{"3000:" + strings.Repeat("0:", 3001), 0, make([]string, 3000), 6005},
	} {
		if !isList(x.s, x.at, x.l, x.next) {
			l, next, ok := GetList(x.s, x.at)
			t.Errorf("GetList(%.20q, %d): %.20q, %d, %v", x.s, x.at, l, next, ok)
		}
	}
	for _, s := range []string{
		"", "1:a0:", "2:", "2:1:a", "2:1:a0", "2:1:a1:", "1:2:a", "01:0:", "1:00:", "1:01:a", "1:+1:a", "-1:0:", "2:0:x0:",
		"3000:" + strings.Repeat("0:", 2999), Put(math.MaxInt), Put(math.MaxInt) + "0:0:", "1:" + Put(math.MaxInt) + "a",
	} {
		if !noList(s, 0) {
			t.Errorf("a list stands in %.30q", s)
		}
	}
}

// P2.2: whatever a short text is, just what was put is got from it.
func TestGetOfAllShortTexts(t *testing.T) {
	const alphabet, most = "012:+x", 6
	all := samples.Texts(alphabet, most)
	numberOf, textOf, listOf := map[string]int{}, map[string]string{}, map[string][]string{}
	for n := range 100000 { // five digits and their end
		numberOf[Put(n)] = n
	}
	for _, x := range all {
		textOf[PutText(x)] = x
	}
	for _, l := range samples.Lists(samples.Texts(alphabet, 2), 2) { // what is greater has more than six bytes
		listOf[PutList(l)] = l
	}
	for _, s := range all {
		for at := range len(s) + 1 {
			number, text, list := noNumber, noText, noList
			for next := at + 1; next <= len(s); next++ {
				if n, ok := numberOf[s[at:next]]; ok {
					number = func(s string, at int) bool { return isNumber(s, at, n, next) }
				}
				if x, ok := textOf[s[at:next]]; ok {
					text = func(s string, at int) bool { return isText(s, at, x, next) }
				}
				if l, ok := listOf[s[at:next]]; ok {
					list = func(s string, at int) bool { return isList(s, at, l, next) }
				}
			}
			if !number(s, at) || !text(s, at) || !list(s, at) {
				t.Fatalf("%q at %d: number %v, text %v, list %v", s, at, number(s, at), text(s, at), list(s, at))
			}
		}
	}
}

// P2.3: what was put is got, whatever stands around it; of what is cut off nothing is got.
func TestWhatIsPutIsGot(t *testing.T) {
	around := []string{"", "0", "7", ":", "1:", "x", "-", "\n", "\xff"}
	for _, front := range around {
		for _, back := range around {
			at := len(front)
			for _, n := range numbers() {
				s := Put(n)
				if !isNumber(front+s+back, at, n, at+len(s)) {
					t.Errorf("Get of %q, %q, %q", front, s, back)
				}
			}
			for _, x := range someTexts() {
				s := PutText(x)
				if !isText(front+s+back, at, x, at+len(s)) {
					t.Errorf("GetText of %q, %.20q, %q", front, s, back)
				}
			}
			for _, l := range samples.Lists(samples.Texts("0:", 1), 3) {
				s := PutList(l)
				if !isList(front+s+back, at, l, at+len(s)) {
					t.Errorf("GetList of %q, %q, %q", front, s, back)
				}
			}
		}
	}
}

// P2.3
func TestOfWhatIsCutOffNothingIsGot(t *testing.T) {
	for _, n := range numbers() {
		for s := Put(n); s != ""; {
			if s = s[:len(s)-1]; !noNumber(s, 0) {
				t.Errorf("a number stands in %q", s)
			}
		}
	}
	for _, x := range someTexts() {
		for s := PutText(x); s != ""; {
			if s = s[:len(s)-1]; !noText(s, 0) {
				t.Errorf("a text stands in %.20q", s)
			}
		}
	}
	for _, l := range samples.Lists([]string{"", "a", "1:", "0:0:", strings.Repeat(":", 12)}, 4) {
		for s := PutList(l); s != ""; {
			if s = s[:len(s)-1]; !noList(s, 0) {
				t.Errorf("a list stands in %q", s)
			}
		}
	}
}

// P2.3: neither one's bytes begin with the other one's.
func TestUnlikeOnesHaveUnlikeBeginnings(t *testing.T) {
	var ns, ts, ls []string
	for n := range 1200 {
		ns = append(ns, Put(n))
	}
	for _, x := range samples.Texts("0:1", 6) {
		ts = append(ts, PutText(x))
	}
	for _, l := range samples.Lists([]string{"", "0", ":", "0:", "1:0:"}, 4) {
		ls = append(ls, PutList(l))
	}
	for _, all := range [][]string{ns, ts, ls} {
		// Rising, one that begins with another one stands behind just such ones.
		slices.Sort(all)
		for i := 1; i < len(all); i++ {
			if strings.HasPrefix(all[i], all[i-1]) {
				t.Errorf("%q begins with %q", all[i], all[i-1])
			}
		}
	}
}

// R4
func TestListsAreOfTheirOwn(t *testing.T) {
	want := []string{"b", "", "a:1"}
	l := slices.Clone(want)
	s := PutList(l)
	if !slices.Equal(l, want) {
		t.Errorf("%q", l)
	}
	l[0] = "x"
	first, _, _ := GetList(s, 0)
	second, _, _ := GetList(s, 0)
	clear(first)
	_ = append(first[:1], "y")
	if !slices.Equal(second, want) || !isList(s, 0, want, len(s)) {
		t.Errorf("%q", second)
	}
}
