package ed

import (
	"fmt"
	"slices"
	"strings"
	"testing"

	"inkhorn/api"
	"inkhorn/core"
	"inkhorn/files"
)

// slow is a pattern that takes more tries than there are, and slowLine the line in which it does.
const (
	slow     = `\(a*\)*\(a*\)*\(a*\)*\(a*\)*\1b`
	slowLine = "aaaaaaaaaaaaaaaaaaaaaaaaaaaaaaaaaaaaaaaa"
)

// P25.2: of all kinds of commands what they tell, and what they do.
func TestCommands(t *testing.T) {
	f := made(t, 1000, "g", "x\ny")
	d := editor(t, f, "f", false, "a", "b", "c")
	talk(t, d, "=", "3\n", "1", "a\n", "", "b\n", "2l", "b$\n", "1,2n", "1\ta\n2\tb\n", ",p", "a\nb\nc\n", "1z2", "a\nb\n")
	talk(t, d, "1d", "", "2kx", "", "'xp", "c\n", "1,2j", "", "p", "bc\n", "s/b/&&/gp", "bbc\n", "t0", "", "1m$", "", ">", "", "l", "\\tbbc$\n", "<p", "bbc\n")
	talk(t, d, "ya b", "", "pu b", "", "g/b/s//B/n", "1\tBbc\n2\tBbc\n3\tBbc\n", "v/x/d", "", "u", "", ",p", "Bbc\nBbc\nBbc\n")
	checkLines(t, d, 3, "Bbc", "Bbc", "Bbc")
	talk(t, d, "0r g", "3\n", "f", "f\n", "w", "16\n", "f h", "h\n", "1w", "2\n", "2,3W", "6\n", "e", "8\n", "E g", "3\n", "q", "")
	checkFiles(t, f, "f", "x\ny\nBbc\nBbc\nBbc\n", "g", "x\ny", "h", "x\ny\nBbc\n")
}

// P25.2: of the changes that are told.
func TestChanges(t *testing.T) {
	f := made(t, 1000, "g", "x\ny")
	d := editor(t, f, "", false, "a", "b", "c")
	for _, x := range []struct{ line, want string }{
		{"p", "[]"}, {"2a", "[]"}, {"n", "[]"}, {"m", "[]"}, {".", "[{2 0 [n m]}]"}, {"1d", "[{0 1 []}]"}, {"u", "[{0 4 [a b n m c]}]"}, {"u", "[{0 5 [b n m c]}]"},
		{"9p", "[]"}, {"s/q/r/", "[]"}, {"0r g", "[{0 0 [x y]}]"}, {"1,2m$", "[{0 2 []} {4 0 [x y]}]"}, {"g/[xy]/d", "[{4 1 []} {4 1 []}]"}, {"1kx", "[]"}, {"h", "[]"}, {"w f", "[]"}, {"e g", "[]"},
		{"1i", "[]"}, {".", "[{0 0 []}]"}, {"2c", "[]"}, {"..", "[]"}, {".", "[{1 1 [..]}]"}, {"q", "[]"}, {"Q", "[]"}, {"p", "[]"},
	} {
		_, l, _ := step(t, d, x.line)
		if got := fmt.Sprint(l); got != x.want {
			t.Errorf("%s: %s, not %s", x.line, got, x.want)
		}
	}
}

// P25.2: lines of text, up to a dot alone, whatever else they may say.
func TestText(t *testing.T) {
	text := []string{"", "..", " .", ". ", ".\r", "\\.", "h", "1h", "q", "Q", "a", "w f", "3p", "x", "\x00\xff", "\t", "u", ".a", strings.Repeat("x", 1000)}
	for line, want := range map[string]struct{ at, del, cur int }{
		"a": {2, 0, 0}, "0a": {0, 0, 0}, "1a": {1, 0, 0}, "$a": {3, 0, 0}, "i": {1, 0, 0}, "0i": {0, 0, 0}, "3i": {2, 0, 0}, "c": {1, 1, 0}, "1,2c": {0, 2, 0}, ",c": {0, 3, 0}, "%c": {0, 3, 0}, "ap": {2, 0, 'p'}, "1in": {0, 0, 'n'}, "3cl": {2, 1, 'l'},
	} {
		for n := range len(text) + 1 {
			f := made(t, 100)
			d := editor(t, f, "", n%2 == 0, "1", "2", "3")
			talk(t, d, "2p", "2\n")
			check(t, d, line, "", api.OK)
			for _, s := range text[:n] {
				if !d.Text() {
					t.Fatal(line, n)
				}
				check(t, d, s, "", api.OK)
			}
			checkLines(t, d, 2, "1", "2", "3")
			out, l, e := step(t, d, ".")
			if e != api.OK || d.Text() || len(l) != 1 || l[0].At != want.at || l[0].Del != want.del || !slices.Equal(l[0].Ins, text[:n]) {
				t.Errorf("%s, %d lines: %v, %v", line, n, e, l)
			}
			if (out == "") != (want.cur == 0) || len(filesOf(t, f)) > 0 {
				t.Errorf("%s, %d lines: %q", line, n, out)
			}
			if n > 0 && d.Core().Cur() != want.at+n {
				t.Errorf("%s, %d lines: at %d", line, n, d.Core().Cur())
			}
			// A dot is a command again, and the text is gone.
			left := d.Core().Lines(1, d.Core().N())
			talk(t, d, "0a", "", "new", "", ".", "")
			checkLines(t, d, 1, append([]string{"new"}, left...)...)
		}
	}
}

// P25.2: while no lines of text are taken a dot alone is the current line.
func TestDotAlone(t *testing.T) {
	d := editor(t, made(t, 100), "", false, "x", "y")
	talk(t, d, "1", "x\n", ".", "x\n", "a", "", ".", "", ".", "x\n")
	d = editor(t, made(t, 100), "", false)
	talk(t, d, ".", "?\n", "h", "bad address\n")
}

// P25.2: whatever a command with text lacks is told behind its text.
func TestErrorsOfText(t *testing.T) {
	for _, x := range []struct {
		line string
		text []string
		want api.Errno
	}{
		{"9a", nil, api.ErrAddress}, {"9a", []string{"x"}, api.ErrAddress}, {"0c", []string{"x"}, api.ErrAddress}, {"2,1c", nil, api.ErrAddress}, {"'zi", []string{"x"}, api.ErrMark}, {"/q/a", nil, api.ErrSought}, {"//a", nil, api.ErrNoRE}, {`/\(/a`, nil, api.ErrPattern},
		{"a", []string{strings.Repeat("x", 1001)}, api.ErrLong}, {"a", []string{"x\ny"}, api.ErrArg}, {"i", []string{"\n"}, api.ErrArg}, {"c", []string{".\n"}, api.ErrArg}, {"1,2c", []string{"a", strings.Repeat("x", 1001), "b"}, api.ErrLong}, {"a", slices.Repeat([]string{"x"}, 1999), api.ErrLong}, {"9a", []string{"x\ny"}, api.ErrAddress},
	} {
		for _, loud := range []bool{false, true} {
			d := editor(t, made(t, 100), "", loud, "1", "2")
			check(t, d, x.line, "", api.OK)
			for _, s := range x.text {
				check(t, d, s, "", api.OK)
			}
			out, _, e := step(t, d, ".")
			if e != x.want || d.Text() || d.Core().Dirty() || loud != (out == Message(e)+"\n") {
				t.Errorf("%s, %.80q: %v, %q", x.line, x.text, e, out)
			}
			check(t, d, "h", Message(x.want)+"\n", api.OK)
			// The text of it is gone.
			talk(t, d, "0a", "", "n", "", ".", "")
			checkLines(t, d, 1, "n", "1", "2")
		}
	}
	d := editor(t, made(t, 100), "", false, "1", "2")
	for _, s := range slices.Concat([]string{"a"}, slices.Repeat([]string{"x"}, 1998)) {
		check(t, d, s, "", api.OK)
	}
	check(t, d, ".", "", api.OK)
	checkLines(t, d, 2000, append([]string{"1", "2"}, slices.Repeat([]string{"x"}, 1998)...)...)
}

// P25.2: an a, c or i that is none takes no text.
func TestCommandsThatTakeNoText(t *testing.T) {
	for line, want := range map[string]api.Errno{
		"ax": api.ErrSuffix, "a x": api.ErrSuffix, "a ": api.ErrSuffix, "ipp": api.ErrSuffix, "c1": api.ErrSuffix, "'Aa": api.ErrAddress, "1234567890a": api.ErrAddress, "A": api.ErrCommand, "I": api.ErrCommand,
		"g/x/a": api.ErrGlobal, "g/x/i": api.ErrGlobal, "v/x/c": api.ErrGlobal,
	} {
		d := editor(t, made(t, 100), "", false, "x")
		check(t, d, line, "?\n", want)
		talk(t, d, "h", words[want]+"\n", "1p", "x\n")
	}
}

// tellers are lines, the last one of which makes an editor of the lines a, b tell an error. Its file system has 20 bytes, of which 12 are the file f's.
var tellers = []struct {
	lines []string
	want  api.Errno
}{
	{[]string{"r many"}, api.ErrLong}, {[]string{"1s/a/" + strings.Repeat("&", 1001) + "/"}, api.ErrLong}, {[]string{"r none"}, api.ErrNone}, {[]string{"e none"}, api.ErrNone}, {[]string{"W f"}, api.ErrFull},
	{[]string{`s/\(/x/`}, api.ErrPattern}, {[]string{`g/[/p`}, api.ErrPattern}, {[]string{`/\)/p`}, api.ErrPattern}, {[]string{"s"}, api.ErrPattern}, {[]string{"a", slowLine, ".", "s/" + slow + "/x/"}, api.ErrFuel},
	{[]string{`s/a/\1/`}, api.ErrRepl}, {[]string{`s/a/\`}, api.ErrRepl}, {[]string{"s//x/"}, api.ErrNoRE}, {[]string{"//"}, api.ErrNoRE}, {[]string{"g//p"}, api.ErrNoRE},
	{[]string{"3p"}, api.ErrAddress}, {[]string{"2,1p"}, api.ErrAddress}, {[]string{"1e f"}, api.ErrAddress}, {[]string{"1q"}, api.ErrAddress}, {[]string{"1Q"}, api.ErrAddress}, {[]string{"0w f"}, api.ErrAddress}, {[]string{"1u"}, api.ErrAddress}, {[]string{"'1p"}, api.ErrAddress},
	{[]string{"/q/"}, api.ErrSought}, {[]string{"g/q/d"}, api.ErrSought}, {[]string{"'ap"}, api.ErrMark}, {[]string{"1,2m1"}, api.ErrDest}, {[]string{"x"}, api.ErrCommand}, {[]string{"1!"}, api.ErrCommand}, {[]string{"w !ls"}, api.ErrCommand}, {[]string{"r !ls"}, api.ErrCommand}, {[]string{"H"}, api.ErrCommand},
	{[]string{"pq"}, api.ErrSuffix}, {[]string{"hp"}, api.ErrSuffix}, {[]string{"h 1"}, api.ErrSuffix}, {[]string{"qq"}, api.ErrSuffix}, {[]string{"wf"}, api.ErrSuffix}, {[]string{"k"}, api.ErrSuffix}, {[]string{"g/a/h"}, api.ErrGlobal}, {[]string{"g/a/q"}, api.ErrGlobal}, {[]string{"g/a/w"}, api.ErrGlobal}, {[]string{"s/q/r/"}, api.ErrMatch},
	{[]string{"u"}, api.ErrUndo}, {[]string{"pu"}, api.ErrReg}, {[]string{"pu z"}, api.ErrReg}, {[]string{"w"}, api.ErrName}, {[]string{"f"}, api.ErrName}, {[]string{"w log"}, api.ErrName}, {[]string{"1d", "q"}, api.ErrDirty}, {[]string{"1d", "e f"}, api.ErrDirty},
	{[]string{"a", "x\ny", "."}, api.ErrArg}, {[]string{"1h"}, api.ErrAddress}, {[]string{".h"}, api.ErrAddress}, {[]string{",h"}, api.ErrAddress}, {[]string{"%h"}, api.ErrAddress}, {[]string{"9h"}, api.ErrAddress}, {[]string{"//h"}, api.ErrAddress}, {[]string{"'zh"}, api.ErrAddress},
}

// P25.2, P25.4: each error that is told: a question mark, or its words; and by h.
func TestErrorsThatAreTold(t *testing.T) {
	for _, x := range tellers {
		for _, loud := range []bool{false, true} {
			f := made(t, 20, "f", "123456789\n12")
			if slices.Contains(x.lines, "r many") {
				f = made(t, 3000, "many", strings.Repeat("\n", 1999))
			}
			d := editor(t, f, "", loud, "a", "b")
			last := len(x.lines) - 1
			for _, line := range x.lines[:last] {
				if _, _, e := step(t, d, line); e != api.OK {
					t.Fatalf("%.80q: %v", line, e)
				}
			}
			want := "?\n"
			if loud {
				want = "error\n"
				if words[x.want] != "" {
					want = words[x.want] + "\n"
				}
			}
			check(t, d, x.lines[last], want, x.want)
			for range 2 {
				check(t, d, "h", Message(x.want)+"\n", api.OK)
			}
			check(t, d, "1kq", "", api.OK)
			check(t, d, "h", Message(x.want)+"\n", api.OK)
		}
	}
}

// P25.2: of h, as long as none was told, and of the one that was told last.
func TestHelp(t *testing.T) {
	for _, loud := range []bool{false, true} {
		d := editor(t, made(t, 100), "", loud, "a")
		for _, line := range []string{"h", "1d", "h", "u", "h", "  h", "\th"} {
			check(t, d, line, "", api.OK)
		}
		step(t, d, "x")
		step(t, d, "9p")
		check(t, d, "h", "bad address\n", api.OK)
		step(t, d, "w")
		check(t, d, "  h", "no file name\n", api.OK)
		step(t, d, "1h")
		check(t, d, "h", "bad address\n", api.OK)
		step(t, d, "hh")
		check(t, d, "h", "bad suffix\n", api.OK)
		// In text it is a line of text.
		talk(t, d, "a", "", "h", "", ".", "", "p", "h\n", "h", "bad suffix\n")
	}
}

// P25.2: h changes nothing, whatever the lines are.
func TestHelpLeavesAll(t *testing.T) {
	d := editor(t, made(t, 100), "f", false, "a", "b")
	talk(t, d, "1kx", "", "1d", "", "1ya b", "", "9p", "?\n")
	ahead := standOf(d.Core())
	for range 3 {
		_, l, e := step(t, d, "h")
		if now := standOf(d.Core()); e != api.OK || len(l) > 0 || !now.same(ahead) || d.Turned() || d.Text() {
			t.Errorf("%v, %v", e, l)
		}
	}
	talk(t, d, "u", "", ",p", "a\nb\n")
}

// P25.2: with a warning what was changed may be lost; what is between leaves the warning, or takes it away.
func TestWarning(t *testing.T) {
	for lines, left := range map[string]bool{
		"": true, "h": true, "h|h|h": true, "1d|q": true, "1d|q|h": true, "1d|e g|h": true, "p|e g": true, "x|q": true,
		"p": false, "1p": false, "=": false, "9p": false, "x": false, "1h": false, "hp": false, "1q": false, "1e g": false, "e none": false, "e log": false, "f": false, "f g": false, "w other": false, "W other": false, "1w": false, "r g": false,
		"1d": false, "1kx": false, "u": false, "s/q/r/": false, "a|x|.": false, "a|.": false, "9a|x|.": false, "9a|h|q|.": false, "p|h": false, "9p|h": false, "h|p": false, "q q|h": false, "1d|q|p": false,
	} {
		for _, ahead := range []string{"q", "e", "e g"} {
			for _, behind := range []string{"q", "e", "e g"} {
				d := editor(t, made(t, 1000, "f", "x\n", "g", "y\nz\n"), "f", false, "a", "b", "c")
				talk(t, d, "3d", "", ahead, "?\n")
				for _, line := range strings.FieldsFunc(lines, func(r rune) bool { return r == '|' }) {
					step(t, d, line)
				}
				if d.Ended() || !d.Core().Dirty() {
					t.Fatal(lines)
				}
				_, _, e := step(t, d, behind)
				if (e == api.OK) != left || !left && e != api.ErrDirty {
					t.Errorf("%s, %s, %s: %v", ahead, lines, behind, e)
				}
				if d.Ended() != (left && behind == "q") || d.Turned() != (left && behind != "q") {
					t.Errorf("%s, %s, %s: %t, %t", ahead, lines, behind, d.Ended(), d.Turned())
				}
			}
		}
	}
}

// P25.2: behind an e that lost what was changed there is no warning any more.
func TestWarningIsOver(t *testing.T) {
	f := made(t, 100, "f", "x\n")
	d := editor(t, f, "f", false, "a")
	talk(t, d, "1d", "", "e", "?\n", "e", "2\n", "1d", "", "e", "?\n", "E", "2\n", "1d", "", "q", "?\n", "w", "0\n", "a", "", "n", "", ".", "", "q", "?\n", "h", "not written\n", "q", "")
	checkFiles(t, f, "f", "")
}

// P25.2: no warning is told of what is clean, nor of E and Q, nor in a text.
func TestNoWarning(t *testing.T) {
	for _, x := range []struct{ line, out string }{{"q", ""}, {"Q", ""}, {"e", "2\n"}, {"E", "2\n"}, {"e g", "4\n"}} {
		d := editor(t, made(t, 100, "f", "x\n", "g", "y\nz\n"), "f", false, "a")
		talk(t, d, x.line, x.out)
	}
	for _, x := range []struct{ line, out string }{{"Q", ""}, {"E", "2\n"}, {"E g", "4\n"}} {
		d := editor(t, made(t, 100, "f", "x\n", "g", "y\nz\n"), "f", false, "a")
		talk(t, d, "1d", "", x.line, x.out)
	}
	d := editor(t, made(t, 100), "f", false, "a")
	talk(t, d, "a", "", "q", "", "q", "", ".", "", "q", "?\n", "q", "")
	checkLines(t, d, 3, "a", "q", "q")
}

// P25.3: which steps turn, whether the one ahead turned, or not.
func TestTurned(t *testing.T) {
	for line, want := range map[string]bool{
		"w": true, "w f": true, "%w": true, "1,2w": true, "e": true, "E": true, "e g": true, "E g": true,
		"w g": false, "1w": false, "W": false, "W g": false, "r": false, "f": false, "f g": false, "p": false, "1d": false, "u": false, "x": false, "9p": false, "h": false, "1h": false, "q": false, "Q": false, "w log": false, "e none": false, "1e": false, "a": false, "": false,
	} {
		for _, first := range []string{"", "w", "e", "E f"} {
			d := editor(t, made(t, 1000, "f", "x\ny\n", "g", "y\nz\n"), "f", false, "a", "b")
			if first != "" {
				step(t, d, first)
			}
			if d.Turned() != (first != "") {
				t.Errorf("%s: %t", first, d.Turned())
			}
			step(t, d, line)
			if d.Turned() != want {
				t.Errorf("%s, %s: %t", first, line, d.Turned())
			}
		}
	}
	d := editor(t, made(t, 100), "", false, "a", "b")
	for _, x := range []struct {
		line string
		want bool
	}{{"1w f", false}, {"w g", false}, {"w", true}, {"a", false}, {"x", false}, {"w", false}, {".", false}, {"w f", true}, {"i", false}, {".", false}, {"f g", false}, {"w f", false}, {"w g", true}} {
		step(t, d, x.line)
		if d.Turned() != x.want {
			t.Errorf("%s: %t", x.line, d.Turned())
		}
	}
	d = editor(t, made(t, 100), "", false, "a")
	if talk(t, d, "w f", "2\n"); !d.Turned() {
		t.Error("w to a first file")
	}
}

// P25.3: the buffer and the name, and when they are others.
func TestCoreAndName(t *testing.T) {
	f := made(t, 1000, "f", "x\n", "g", "y\nz\n")
	d := editor(t, f, "", false, "a")
	c := d.Core()
	for _, x := range []struct {
		line, name string
		anew       bool
	}{
		{"p", "", false}, {"w", "", false}, {"f", "", false}, {"e none", "", false}, {"w log", "", false}, {"1w h", "h", false}, {"w g", "h", false}, {"r g", "h", false}, {"f i", "i", false}, {"f log", "i", false}, {"e f", "i", false}, {"e f", "f", true},
		{"e none", "f", false}, {"e g", "g", true}, {"1d", "g", false}, {"e f", "g", false}, {"E none", "g", false}, {"E f", "f", true}, {"E", "f", true}, {"a", "f", false}, {"e g", "f", false}, {".", "f", false}, {"u", "f", false}, {"Q", "f", false}, {"E g", "f", false},
	} {
		step(t, d, x.line)
		if d.Name() != x.name || (d.Core() != c) != x.anew {
			t.Errorf("%s: %q, not %q; another buffer: %t", x.line, d.Name(), x.name, d.Core() != c)
		}
		c = d.Core()
	}
	checkLines(t, d, 1, "x")
	for line, want := range map[string]string{"r f": "f", "w h": "h", "1W h": "h", "f h": "h", "e g": "g", "1w f": "f"} {
		d := editor(t, made(t, 1000, "f", "x\n", "g", "y\nz\n"), "", true, "a", "b")
		if _, _, e := step(t, d, line); e != api.OK || d.Name() != want {
			t.Errorf("%s: %v, %q", line, e, d.Name())
		}
	}
}

// P25.2, P25.3: of an editor that has ended nothing is another one any more.
func TestEnded(t *testing.T) {
	for _, rows := range [][]string{{"q"}, {"Q"}, {"1d", "Q"}, {"1d", "q", "q"}, {"w", "q"}, {"9p", "q"}, {"e", "q"}} {
		f := made(t, 1000, "f", "x\ny\n")
		d := editor(t, f, "f", rows[0] == "q", "a", "b")
		for i, line := range rows {
			step(t, d, line)
			if d.Ended() != (i == len(rows)-1) {
				t.Errorf("%q: %t", rows, d.Ended())
			}
		}
		c, ahead, had := d.Core(), standOf(d.Core()), filesOf(t, f)
		for _, line := range []string{"", "q", "Q", "h", "1h", "a", "x", ".", "p", "1d", "w", "w g", "e", "E", "f g", "u", "x!", "'", "\n"} {
			check(t, d, line, "", api.ErrMode)
			if !d.Ended() || d.Text() || d.Turned() || d.Core() != c || d.Name() != "f" || !standOf(c).same(ahead) || !slices.Equal(filesOf(t, f), had) {
				t.Errorf("%q, %s", rows, line)
			}
		}
	}
}

// P25.2: a file system that is off, or none, is told by the commands that ask it.
func TestFileSystemsThatAreNoUse(t *testing.T) {
	down := made(t, 100, "f", "a\n")
	down.Crash(nil)
	for f, want := range map[*files.FS]string{down: "no disk\n", {}: "error\n"} {
		d := editor(t, f, "f", true, "a", "b")
		talk(t, d, "1d", "")
		for _, line := range []string{"w", "w g", "W", "r", "E", "1w"} {
			if out, _, e := step(t, d, line); e == api.OK || out != want {
				t.Errorf("%s: %q, %v", line, out, e)
			}
		}
		check(t, d, "q", "not written\n", api.ErrDirty)
		talk(t, d, "p", "b\n", "f g", "g\n", "h", "not written\n")
		check(t, d, "q", "not written\n", api.ErrDirty)
		talk(t, d, "q", "")
	}
}

// P25.2, P0.4: a w in which the power fails, at each of its strokes: the file is the old one, or the new one, and the buffer is still changed.
func TestCrashesAmidWrite(t *testing.T) {
	for n := range 5 {
		for kept := range 6 {
			f := made(t, 100, "f", "old\n")
			d := editor(t, f, "f", true, "a", "b")
			talk(t, d, "a", "", "c", "", ".", "")
			f.Fail(n, []int{kept, kept})
			out, _, e := step(t, d, "w")
			if (e == api.OK) != (n > 2) || d.Turned() != (e == api.OK) || d.Core().Dirty() != (e != api.OK) {
				t.Fatalf("%d, %d: %q, %v", n, kept, out, e)
			}
			if e != api.OK {
				check(t, d, "w", "no disk\n", api.ErrDown)
				check(t, d, "h", "no disk\n", api.OK)
			} else {
				f.Crash(nil)
			}
			f.Start()
			want := []string{"f", "old\n"}
			if e == api.OK {
				want[1] = "a\nb\nc\n"
			}
			checkFiles(t, f, want...)
			talk(t, d, "w", "6\n")
			checkFiles(t, f, "f", "a\nb\nc\n")
		}
	}
}

// P25.2: what is told of a change that somebody else has begun, who may go on.
func TestAChangeOfSomebodyElse(t *testing.T) {
	d := editor(t, made(t, 100, "f", "x\n"), "f", true, "a", "b")
	if d.Core().Begin() != api.OK || d.Core().Splice(api.Splice{Ins: []string{"n"}}) != api.OK {
		t.Fatal("Begin")
	}
	for _, line := range []string{"1d", "u", "p", "r"} {
		check(t, d, line, "error\n", api.ErrArg)
	}
	if l := d.Core().End(); len(l) != 1 {
		t.Error(l)
	}
	talk(t, d, ",p", "n\na\nb\n")
}

// R4, LANGUAGE: what is handed out is memory of its own.
func TestAnswersAreTheirOwn(t *testing.T) {
	f := made(t, 100, "f", "x\ny\n")
	d := editor(t, f, "f", false, "a", "b")
	for _, rows := range [][]string{{"a", "n", "m", "."}, {"1c", "k", "."}, {"u"}, {"u"}, {"r"}, {"1,2t$"}, {"g/./s//<&>/"}, {"u"}} {
		for i, line := range rows {
			_, l, e := step(t, d, line)
			want := d.Core().Lines(1, d.Core().N())
			for j := range l {
				for k := range l[j].Ins {
					l[j].Ins[k] = "spoilt"
				}
				l[j] = api.Splice{At: -1}
			}
			if e != api.OK || !slices.Equal(d.Core().Lines(1, d.Core().N()), want) {
				t.Errorf("%q, %d: %v", rows, i, e)
			}
		}
	}
	for range 2 {
		step(t, d, "u")
		if slices.Contains(d.Core().Lines(1, d.Core().N()), "spoilt") {
			t.Error("u")
		}
	}
}

// P0.6, P25.4: what is written, and read by e, is the same lines.
func TestRound(t *testing.T) {
	for _, l := range [][]string{nil, {""}, {"", ""}, {"a"}, {".", "..", "\x00\xff", "", strings.Repeat("x", 1000)}, slices.Repeat([]string{"ab"}, 2000)} {
		d := editor(t, made(t, 1<<20), "", false, l...)
		for _, line := range []string{"w f", "e", "1,$w g", "e g"} {
			if len(l) == 0 && line == "1,$w g" {
				line = "w g"
			}
			if _, _, e := step(t, d, line); e != api.OK || !d.Turned() && line != "1,$w g" && line != "w g" {
				t.Errorf("%s: %v", line, e)
			}
			checkLines(t, d, len(l), l...)
		}
	}
}

// P25.4: every line is answered, whatever its bytes are, while a text is taken, too; nothing is told of what no line says.
func TestAnyBytes(t *testing.T) {
	c, _ := core.New([]string{"a", "b"})
	for a := range 256 {
		for _, behind := range []string{"", "p", "/", "\n", " f", "a", "\xff", "2"} {
			line := string([]byte{byte(a)}) + behind
			for _, loud := range []bool{false, true} {
				d := editor(t, made(t, 100, "f", "x\n"), "f", loud, c.Lines(1, 2)...)
				step(t, d, line)
				if d.Text() {
					step(t, d, line)
					step(t, d, ".")
				}
				step(t, d, line)
				step(t, d, "h")
			}
		}
	}
	for _, line := range []string{strings.Repeat("a", 100000), strings.Repeat("1,", 50000), strings.Repeat(";", 50000) + "p", "s/" + strings.Repeat(`\(`, 5000), "g/" + strings.Repeat("g/", 5000), strings.Repeat("+", 50000), strings.Repeat(" ", 50000) + "h"} {
		d := editor(t, made(t, 100), "f", true, "a", "b")
		step(t, d, line)
		step(t, d, "h")
	}
}
