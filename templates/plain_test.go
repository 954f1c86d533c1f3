package templates

import (
	"strings"
	"testing"

	"inkhorn/api"
	"inkhorn/samples"
)

// plainExpand tells by the document's words, byte by byte, what a replacement is expanded to, which group is its
// greatest, and whether it is one.
func plainExpand(repl, s string, spans [10][2]int) (told string, most int, ok bool) {
	group := func(n int) {
		most = max(most, n)
		for at := range len(s) {
			if from, upTo := spans[n][0], spans[n][1]; 0 <= from && upTo <= len(s) && from <= at && at < upTo {
				told += s[at : at+1]
			}
		}
	}
	behind := false // Whether a backslash stands ahead.
	for _, b := range []byte(repl) {
		switch {
		case !behind && b == '\\':
			behind = true
			continue
		case !behind && b == '&':
			group(0)
		case behind && strings.IndexByte("123456789", b) >= 0:
			group(int(b - '0'))
		case behind && b == 'n':
			told += "\n"
		default:
			told += string([]byte{b})
		}
		behind = false
	}
	return told, most, !behind
}

// checkPlain holds a replacement against these words.
func checkPlain(t *testing.T, repl, s string, spans [10][2]int) {
	t.Helper()
	want, most, ok := plainExpand(repl, s, spans)
	r, e := Parse(repl)
	if !ok {
		if r != nil || e != api.ErrRepl {
			t.Errorf("%q: %v %v", repl, r, e)
		}
		return
	}
	if got := Expand(r, s, spans); r == nil || e != api.OK || got != want || Most(r) != most {
		t.Errorf("%q of %q, %v: %v, %q, %d, not %q, %d", repl, s, spans, e, got, Most(r), want, most)
	}
}

// P11.1, P11.2: all short replacements.
func TestAllShort(t *testing.T) {
	for _, repl := range samples.Texts("&\\n190a\n", 5) {
		checkPlain(t, repl, digits, ofDigits())
	}
	spans := spansOf([2]int{1, 3}, [2]int{2, 3}, [2]int{3, 2}, [2]int{2, 5})
	for _, repl := range samples.Texts(`&\123`, 6) {
		checkPlain(t, repl, "abcd", spans)
	}
}

// draw is a row of numbers that looks like one by chance.
type draw uint64

func (d *draw) below(n int) int {
	*d = *d*6364136223846793005 + 1442695040888963407
	return int(uint64(*d)>>33) % n
}

// text is one of some bytes.
func (d *draw) text(alphabet string, most int) string {
	s := make([]byte, d.below(most+1))
	for i := range s {
		s[i] = alphabet[d.below(len(alphabet))]
	}
	return string(s)
}

// P11.1, P11.2: drawn replacements, texts and stretches.
func TestDrawn(t *testing.T) {
	d := draw(11)
	for range 20000 {
		s := d.text("ab\\&\n", 8)
		var spans [10][2]int
		for n := range spans {
			spans[n] = [2]int{d.below(len(s)+3) - 1, d.below(len(s)+3) - 1}
		}
		checkPlain(t, d.text(`&\\\n0123456789x`+"\n\xc3", 40), s, spans)
	}
}

// P11.3: of two replacements, one behind the other, the expansion is both expansions.
func TestBehind(t *testing.T) {
	all := samples.Texts("&\\n1\na", 3)
	for _, a := range all {
		first, e := Parse(a)
		if e != api.OK {
			continue
		}
		for _, b := range all {
			second, e := Parse(b)
			if e != api.OK {
				continue
			}
			both, e := Parse(a + b)
			if e != api.OK || Most(both) != max(Most(first), Most(second)) {
				t.Errorf("%q %q: %v %d", a, b, e, Most(both))
			}
			for _, spans := range [][10][2]int{ofDigits(), spansOf([2]int{2, 5}), spansOf([2]int{5, 2}, [2]int{0, 10})} {
				if got := Expand(both, digits, spans); got != Expand(first, digits, spans)+Expand(second, digits, spans) {
					t.Errorf("%q %q: %q", a, b, got)
				}
			}
		}
	}
}
