package ed

import (
	"fmt"
	"slices"
	"strings"
	"testing"

	"inkhorn/api"
	"inkhorn/core"
	"inkhorn/files"
	"inkhorn/regs"
	"inkhorn/splices"
)

// made is a file system with some files, all of which are synced: a name, and the bytes behind it, and so on.
func made(t *testing.T, size int, has ...string) *files.FS {
	t.Helper()
	f, e := files.New(size)
	if e != api.OK {
		t.Fatal(e)
	}
	for i := 0; i < len(has); i += 2 {
		if f.Append(has[i], has[i+1]) != api.OK || f.Sync(has[i]) != api.OK {
			t.Fatal(has[i])
		}
	}
	return f
}

// editor is one of such a file system, and of lines.
func editor(t *testing.T, f *files.FS, name string, loud bool, l ...string) *Ed {
	t.Helper()
	c, e := core.New(l)
	if e != api.OK {
		t.Fatalf("%.80q: %v", l, e)
	}
	d, e := New(c, f, name, loud)
	if e != api.OK || d == nil {
		t.Fatalf("%.80q, %q: %v", l, name, e)
	}
	return d
}

// stand is what a buffer has.
type stand struct {
	lines []string
	cur   int
	marks api.Marks
	last  string
	regs  string
	dirty bool
}

func standOf(c *core.Core) stand {
	v := c.View()
	return stand{lines: v.Lines, cur: v.Cur, marks: v.Marks, last: v.Last, regs: textOf(c.Regs()), dirty: c.Dirty()}
}

// textOf is all that registers have, as a text.
func textOf(r *regs.Regs) string {
	var b strings.Builder
	for letter := range byte(128) {
		if x, e := r.Get(letter); e == api.OK {
			fmt.Fprintf(&b, "%q %q %t\n", letter, x.Lines, x.Whole)
		}
	}
	return b.String()
}

// same tells whether both are the same, but for the pattern that was used last.
func (s stand) same(o stand) bool {
	return slices.Equal(s.lines, o.lines) && s.cur == o.cur && s.marks == o.marks && s.regs == o.regs && s.dirty == o.dirty
}

// filesOf is all files, but for the draft of package saves: a name, and the bytes behind it, and so on.
func filesOf(t *testing.T, f *files.FS) []string {
	t.Helper()
	var l []string
	for _, name := range f.Names() {
		if name == "~" {
			continue
		}
		text, e := f.Read(name)
		if e != api.OK {
			t.Fatal(name, e)
		}
		l = append(l, name, text)
	}
	return l
}

// step takes a line, and holds what is promised of all of them against what came of it.
func step(t *testing.T, d *Ed, line string) (string, []api.Splice, api.Errno) {
	t.Helper()
	c, name, ended, taking, turned := d.Core(), d.Name(), d.Ended(), d.Text(), d.Turned()
	ahead := standOf(c)
	out, l, e := d.Step(line)
	behind := standOf(d.Core())
	if e != api.OK {
		if len(l) > 0 || d.Core() != c || !behind.same(ahead) || d.Name() != name || d.Ended() != ended {
			t.Fatalf("%.80q, %v: %v, %.300v, not %.300v; %q, not %q", line, e, l, behind, ahead, d.Name(), name)
		}
		want := "?\n"
		switch {
		case ended:
			want = ""
		case d.loud:
			want = Message(e) + "\n"
		}
		if out != want || ended != (e == api.ErrMode) || d.Turned() != (ended && turned) || d.Text() {
			t.Fatalf("%.80q, %v: %q, not %q; %t, %t", line, e, out, want, d.Turned(), d.Text())
		}
		return out, l, e
	}
	if d.Core() != c {
		if len(l) > 0 || !d.Turned() || c.Regs() == nil {
			t.Fatalf("%.80q: %v, %t", line, l, d.Turned())
		}
		return out, l, e
	}
	if lead, e := splices.All(ahead.lines, l); e != api.OK || !slices.Equal(lead, behind.lines) {
		t.Fatalf("%.80q: %v leads to %.200q, not %.200q", line, l, lead, behind.lines)
	}
	if taking && line != "." && (!ahead.same(behind) || out != "" || !d.Text()) {
		t.Fatalf("%.80q: a line of text makes %.300v of %.300v", line, behind, ahead)
	}
	return out, l, e
}

// check tells where a line tells something else, or another error.
func check(t *testing.T, d *Ed, line, want string, wantE api.Errno) {
	t.Helper()
	if out, _, e := step(t, d, line); out != want || e != wantE {
		t.Errorf("%.80q: %.200q, %v, not %.200q, %v", line, out, e, want, wantE)
	}
}

// talk takes lines, each with what it tells behind it; a question mark alone is an error's.
func talk(t *testing.T, d *Ed, rows ...string) {
	t.Helper()
	for i := 0; i < len(rows); i += 2 {
		out, _, e := step(t, d, rows[i])
		want := rows[i+1]
		if out != want || (e != api.OK) != (want == "?\n") {
			t.Fatalf("row %d, %.80q: %.200q, %v, not %.200q", i/2, rows[i], out, e, want)
		}
	}
}

// checkLines tells where an editor has other lines than these, or another current one.
func checkLines(t *testing.T, d *Ed, cur int, want ...string) {
	t.Helper()
	if v := d.Core().View(); !slices.Equal(v.Lines, want) || v.Cur != cur {
		t.Errorf("%.200q at %d, not %.200q at %d", v.Lines, v.Cur, want, cur)
	}
}

// checkFiles tells where there are other files than these.
func checkFiles(t *testing.T, f *files.FS, want ...string) {
	t.Helper()
	if got := filesOf(t, f); !slices.Equal(got, want) {
		t.Errorf("%.200q, not %.200q", got, want)
	}
}

// The examples of the chapter.
func TestExamples(t *testing.T) {
	f := made(t, 1000)
	d := editor(t, f, "", false)
	talk(t, d, "a", "", "one", "", "two", "", ".", "", "1p", "one\n")
	talk(t, d, "3p", "?\n", "h", "bad address\n", "s/x/y/", "?\n", "h", "no match\n")
	talk(t, d, "w f", "8\n", "q", "")
	check(t, d, "1p", "", api.ErrMode)
	checkFiles(t, f, "f", "one\ntwo\n")

	d = editor(t, f, "", false)
	talk(t, d, "a", "", "one", "", ".", "", "q", "?\n", "q", "")
	check(t, d, "q", "", api.ErrMode)
}

// Examples 1 to 6 of the whole, as far as they are a line editor's.
func TestExamplesOfTheWhole(t *testing.T) {
	f := made(t, 1000)
	d := editor(t, f, "", false)
	talk(t, d, "a", "", "one", "", "two", "", ".", "", "1p", "one\n")
	talk(t, d, "3p", "?\n", "h", "bad address\n")
	talk(t, d, "1,$s/o/0/", "")
	checkLines(t, d, 2, "0ne", "tw0")
	talk(t, d, "u", "")
	checkLines(t, d, 1, "one", "two")
	talk(t, d, "u", "")
	checkLines(t, d, 2, "0ne", "tw0")
	talk(t, d, "g/0/m0", "")
	checkLines(t, d, 1, "tw0", "0ne")
	talk(t, d, "u", "")
	checkLines(t, d, 2, "0ne", "tw0")
	talk(t, d, "u", "", "u", "", "1,$s/0/o/", "", "w f", "8\n")
	checkFiles(t, f, "f", "one\ntwo\n")

	d = editor(t, f, "f", true)
	check(t, d, "e", "8\n", api.OK)
	check(t, d, "9p", "bad address\n", api.ErrAddress)
}

// P25.1: a buffer or a file system that is none, ahead of the name.
func TestNewOfNone(t *testing.T) {
	c, _ := core.New([]string{"a"})
	f := made(t, 100)
	for _, name := range []string{"", "f", "log", "a b"} {
		for _, loud := range []bool{false, true} {
			for _, c := range []*core.Core{nil, {}, new(core.Core)} {
				for _, f := range []*files.FS{nil, {}, f} {
					if d, e := New(c, f, name, loud); d != nil || e != api.ErrNil {
						t.Errorf("%q: %v", name, e)
					}
				}
			}
			if d, e := New(c, nil, name, loud); d != nil || e != api.ErrNil {
				t.Errorf("%q: %v", name, e)
			}
		}
	}
}

// P25.1: what is no file's name, but for none.
func TestNewOfNames(t *testing.T) {
	f := made(t, 100)
	down := made(t, 100)
	down.Crash(nil)
	for _, f := range []*files.FS{f, down, {}} {
		for _, loud := range []bool{false, true} {
			for _, name := range []string{"", "f", "lo", "a/b", "!ls", "}", "1234567890123456"} {
				c, _ := core.New([]string{"a", "b"})
				d, e := New(c, f, name, loud)
				if e != api.OK || d.Core() != c || d.Name() != name || d.Ended() || d.Text() || d.Turned() {
					t.Errorf("%q: %v", name, e)
				}
				if v := c.View(); len(v.Lines) != 2 || v.Cur != 2 || c.Dirty() {
					t.Errorf("%q: %v", name, v)
				}
			}
			for _, name := range []string{"log", "log+", "login", "~", "a~", "a b", " ", "a\n", "\x00", "\x7f", "\xff", "12345678901234567", strings.Repeat("a", 1000)} {
				c, _ := core.New(nil)
				if d, e := New(c, f, name, loud); d != nil || e != api.ErrName {
					t.Errorf("%q: %v", name, e)
				}
			}
		}
	}
}

// words are those of the errors that have some.
var words = map[api.Errno]string{
	3: "too long", 4: "no such file", 50: "no space", 51: "no disk",
	90: "bad pattern", 100: "pattern takes too long", 110: "bad replacement", 203: "no pattern",
	200: "bad address", 201: "not found", 202: "no such mark", 212: "bad destination",
	210: "unknown command", 211: "bad suffix", 230: "not in a global command", 220: "no match",
	190: "nothing to undo", 170: "nothing in register", 240: "no file name", 241: "not written",
}

// P25.1
func TestMessage(t *testing.T) {
	for e := api.Errno(-1000); e < 1000; e++ {
		want, ok := words[e]
		if !ok {
			want = "error"
		}
		if got := Message(e); got != want {
			t.Errorf("%d: %q, not %q", e, got, want)
		}
	}
	for _, e := range []api.Errno{-1 << 63, 1<<63 - 1, 1<<32 + api.ErrLong, 1<<32 + api.ErrDirty, api.ErrDirty + 1<<8} {
		if Message(e) != "error" {
			t.Errorf("%d: %q", e, Message(e))
		}
	}
}

// Editors that are none.
func TestNone(t *testing.T) {
	for _, d := range []*Ed{nil, {}, new(Ed)} {
		for _, line := range []string{"", "a", ".", "h", "1h", "q", "Q", "p", "w f", "x", "\n\xff"} {
			out, l, e := d.Step(line)
			if out != "" || l != nil || e != api.ErrNil {
				t.Errorf("%q: %q, %v, %v", line, out, l, e)
			}
			if d.Core() != nil || d.Name() != "" || d.Ended() || d.Text() || d.Turned() {
				t.Errorf("%q", line)
			}
		}
	}
}
