package disk

import (
	"fmt"
	"slices"
	"strings"
	"testing"

	"inkhorn/api"
	"inkhorn/core"
	"inkhorn/files"
)

// many is so many lines.
func many(n int, line string) []string { return slices.Repeat([]string{line}, n) }

// slow is a pattern that takes more tries than there are, and slowLine the line in which it does.
const (
	slow     = `\(a*\)*\(a*\)*\(a*\)*\(a*\)*\1b`
	slowLine = "aaaaaaaaaaaaaaaaaaaaaaaaaaaaaaaaaaaaaaaa"
)

// P24.1: e and E.
func TestEdit(t *testing.T) {
	for text, want := range map[string][]string{
		"": nil, "a": {"a"}, "a\n": {"a"}, "\n": {""}, "a\n\nb": {"a", "", "b"}, "\n\n": {"", ""}, "a\r\n\x00\xff": {"a\r", "\x00\xff"},
		strings.Repeat("x", 1000): {strings.Repeat("x", 1000)}, strings.Repeat("\n", 2000): many(2000, ""), strings.Repeat("xy\n", 1999) + "z": append(many(1999, "xy"), "z"),
	} {
		for _, line := range []string{"e", "E", "e f", "E f"} {
			for _, name := range []string{"f", "g"} {
				if name == "g" && len(line) == 1 {
					continue
				}
				f := made(t, 100000, "f", text, "g", "other")
				c := buffer(t, "old", "er")
				r := checkDone(t, c, f, name, line, Result{Out: fmt.Sprintln(len(text)), Name: "f", Anew: true})
				checkNew(t, r.Core, want)
			}
		}
	}
}

// checkNew tells where a buffer is not as a new one of these lines.
func checkNew(t *testing.T, c *core.Core, want []string) {
	t.Helper()
	s := standOf(c)
	if !slices.Equal(s.lines, want) || s.cur != len(want) || s.marks != (api.Marks{}) || s.last != "" || s.regs != "" || s.dirty {
		t.Errorf("%.300v", s)
	}
	if _, e := c.Undo(); e != api.ErrUndo {
		t.Error(e)
	}
	if e := c.Begin(); e != api.OK {
		t.Error(e)
	}
}

// P24.1: what a buffer was changed by is lost by E, and with force, and not else.
func TestEditOfWhatWasChanged(t *testing.T) {
	f := made(t, 100, "f", "a\nb\n")
	for _, x := range []struct {
		line  string
		force bool
		want  api.Errno
	}{{"e", false, api.ErrDirty}, {"e f", false, api.ErrDirty}, {"e none", false, api.ErrDirty}, {"e", true, api.OK}, {"E", false, api.OK}, {"E", true, api.OK}, {"e none", true, api.ErrNone}, {"E none", false, api.ErrNone}} {
		c := dirty(t, "old")
		r, e := do(t, c, f, "f", read(t, x.line), x.force)
		if e != x.want {
			t.Errorf("%s, %t: %v", x.line, x.force, e)
		}
		if e == api.OK {
			checkNew(t, r.Core, []string{"a", "b"})
		}
		if !c.Dirty() {
			t.Errorf("%s: what was changed is clean", x.line)
		}
	}
}

// P24.1: the errors of e and E, each ahead of those behind it.
func TestEditErrors(t *testing.T) {
	f := made(t, 100000, "long", strings.Repeat("x", 1001), "many", strings.Repeat("\n", 2001), "more", strings.Repeat("\n", 2000)+"x")
	for _, line := range []string{"1e log", "0e", ".E", "$e none", "1,2E none", "%e", ",e", ";e", "/a/e", "9e", "'zE", "//e"} {
		checkErr(t, dirty(t, "a"), f, "", line, api.ErrAddress)
	}
	checkErr(t, dirty(t, "a"), f, "", "e log", api.ErrName)
	checkErr(t, dirty(t, "a"), f, "", "e", api.ErrName)
	checkErr(t, dirty(t, "a"), f, "none", "e", api.ErrDirty)
	checkErr(t, dirty(t, "a"), f, "", "e long", api.ErrDirty)
	checkErr(t, buffer(t, "a"), f, "none", "e", api.ErrNone)
	checkErr(t, dirty(t, "a"), f, "none", "E", api.ErrNone)
	for _, file := range []string{"long", "many", "more"} {
		checkErr(t, buffer(t, "a"), f, "", "e "+file, api.ErrLong)
		checkErr(t, dirty(t, "a"), f, "", "E "+file, api.ErrLong)
		checkErr(t, buffer(t, "a"), f, "", "r "+file, api.ErrLong)
	}
}

// P24.1: r, behind each line; the buffer has the lines a, b, c, and the current line is 2.
func TestRead(t *testing.T) {
	const text = "x\ny"
	for line, want := range map[string]struct {
		lines string
		cur   int
	}{
		"r": {"a|b|c|x|y", 5}, "0r": {"x|y|a|b|c", 2}, "1r": {"a|x|y|b|c", 3}, ".r": {"a|b|x|y|c", 4}, "2r": {"a|b|x|y|c", 4}, "$r": {"a|b|c|x|y", 5},
		"1,2r": {"a|b|x|y|c", 4}, "3;1,2r": {"a|b|x|y|c", 4}, "%r": {"a|b|c|x|y", 5}, "'ar": {"a|x|y|b|c", 3}, "/a/r": {"a|x|y|b|c", 3}, "0,1r": {"a|x|y|b|c", 3}, "0,0r": {"x|y|a|b|c", 2}, ";r": {"a|b|c|x|y", 5}, "-r": {"a|x|y|b|c", 3},
	} {
		for _, file := range []string{"", " f"} {
			f := made(t, 100, "f", text, "g", "other")
			c := buffer(t, "a", "b", "c")
			r := checkDone(t, c, f, "f", line+file, Result{Out: "3\n", Name: "f"})
			checkLines(t, c, want.cur, strings.Split(want.lines, "|")...)
			at := want.cur - 2
			if len(r.Change) != 1 || r.Change[0].At != at || r.Change[0].Del != 0 || !slices.Equal(r.Change[0].Ins, []string{"x", "y"}) {
				t.Errorf("%s: %v", line, r.Change)
			}
			for i, n := range []int{1, 2, 3} {
				if n > at {
					n += 2
				}
				if c.View().Marks[i] != n {
					t.Errorf("%s: mark %d is on %d", line, i, c.View().Marks[i])
				}
			}
		}
	}
}

// P24.1: of r the name is the file's, if there was none; the buffer is its own in no case.
func TestReadAndNames(t *testing.T) {
	f := made(t, 100, "f", "x\n", "g", "other")
	for _, x := range []struct{ name, line, want string }{{"", "r f", "f"}, {"f", "r", "f"}, {"f", "r f", "f"}, {"g", "r f", "g"}, {"none", "r f", "none"}} {
		for _, l := range [][]string{nil, {"a"}} {
			c := buffer(t, l...)
			checkDone(t, c, f, x.name, x.line, Result{Out: "2\n", Name: x.want})
			checkLines(t, c, len(l)+1, append(slices.Clone(l), "x")...)
		}
	}
}

// P24.1: of a file without lines the line behind which they would stand is the current one.
func TestReadOfNoLines(t *testing.T) {
	f := made(t, 100, "f", "")
	for line, cur := range map[string]int{"r": 3, "0r": 0, "1r": 1, "2r": 2, "1,3r": 3} {
		c := buffer(t, "a", "b", "c")
		r := checkDone(t, c, f, "f", line, Result{Out: "0\n", Name: "f"})
		checkLines(t, c, cur, "a", "b", "c")
		if len(r.Change) != 1 || r.Change[0].At != cur || r.Change[0].Del != 0 || len(r.Change[0].Ins) != 0 {
			t.Errorf("%s: %v", line, r.Change)
		}
		if !c.Dirty() {
			t.Errorf("%s: clean", line)
		}
	}
	c := buffer(t)
	checkDone(t, c, f, "f", "r", Result{Out: "0\n", Name: "f"})
	checkLines(t, c, 0)
}

// P24.1: the errors of r, each ahead of those behind it.
func TestReadErrors(t *testing.T) {
	f := made(t, 100000, "f", strings.Repeat("x\n", 2), "many", strings.Repeat("\n", 2001))
	for line, want := range map[string]api.Errno{
		"9r log": api.ErrAddress, "2,1r": api.ErrAddress, "'zr": api.ErrMark, "//r none": api.ErrNoRE, "/q/r log": api.ErrSought, `/\(/r`: api.ErrPattern, "/" + slow + "/r": api.ErrFuel,
		"r log": api.ErrName, "r": api.ErrName, "1r log+": api.ErrName, "r none": api.ErrNone, "0r none": api.ErrNone, "r many": api.ErrLong, "1r f": api.OK,
	} {
		for _, c := range []*core.Core{buffer(t, slowLine, "b"), dirty(t, slowLine, "b")} {
			checkErr(t, c, f, "", line, want)
		}
	}
}

// P24.1: with core.Splice's error nothing of the change is there, nor is it going on.
func TestReadOfTooMuch(t *testing.T) {
	f := made(t, 100000, "f", "x\ny\n", "two", strings.Repeat("\n", 2000))
	for _, l := range [][]string{many(1999, "a"), many(2000, "a")} {
		for _, name := range []string{"", "f"} {
			c := buffer(t, l...)
			checkErr(t, c, f, name, "r f", api.ErrLong)
			checkErr(t, c, f, name, "0r f", api.ErrLong)
			if _, e := c.Undo(); e != api.ErrUndo {
				t.Error(e)
			}
			if e := c.Begin(); e != api.OK {
				t.Error(e)
			}
		}
	}
	c := buffer(t, many(1998, "a")...)
	checkDone(t, c, f, "f", "1998r", Result{Out: "4\n", Name: "f"})
	checkLines(t, c, 2000, append(many(1998, "a"), "x", "y")...)
	c = buffer(t)
	checkDone(t, c, f, "", "r two", Result{Out: "2000\n", Name: "two"})
	checkLines(t, c, 2000, many(2000, "")...)
	checkErr(t, c, f, "two", "r two", api.ErrLong)
}

// P24.1: a change that has begun is somebody else's: core.Begin's error, and it goes on.
func TestReadInAChange(t *testing.T) {
	f := made(t, 100, "f", "x\n")
	c := buffer(t, "a", "b")
	if c.Begin() != api.OK || c.Splice(api.Splice{Ins: []string{"n"}}) != api.OK {
		t.Fatal("Begin")
	}
	checkErr(t, c, f, "f", "r", api.ErrArg)
	checkErr(t, c, f, "f", "r none", api.ErrNone)
	if e := c.Splice(api.Splice{At: 1, Del: 2}); e != api.OK {
		t.Error(e)
	}
	if l := c.End(); len(l) != 2 {
		t.Error(l)
	}
	checkLines(t, c, 1, "n")
}

// P24.1: w and W of the lines that are addressed; the buffer has the lines a, bb, ccc, and the current line is 2.
func TestWrite(t *testing.T) {
	for line, want := range map[string]string{
		"": "a\nbb\nccc\n", "%": "a\nbb\nccc\n", ",": "a\nbb\nccc\n", "1,$": "a\nbb\nccc\n", "1,3": "a\nbb\nccc\n", "3;1,3": "a\nbb\nccc\n", "'a,'c": "a\nbb\nccc\n",
		"1": "a\n", ".": "bb\n", "2": "bb\n", "$": "ccc\n", "1,2": "a\nbb\n", "2,3": "bb\nccc\n", ";": "bb\nccc\n", "1,1": "a\n", "/c/": "ccc\n", "-": "a\n",
	} {
		for _, had := range []string{"none", "", "old\n", "an end lacks"} {
			f := made(t, 100, "other", "x")
			if had != "none" {
				f = made(t, 100, "f", had, "other", "x")
			}
			c := dirty(t, "a", "bb", "ccc")
			all := len(want) == 9
			checkDone(t, c, f, "f", line+"w", Result{Out: fmt.Sprintln(len(want)), Name: "f", Wrote: all})
			checkFiles(t, f, "f", want, "other", "x")
			if c.Dirty() == all {
				t.Errorf("%sw: dirty is %t", line, c.Dirty())
			}

			if f = made(t, 100, "other", "x"); had != "none" {
				f = made(t, 100, "f", had, "other", "x")
			} else {
				had = ""
			}
			c = dirty(t, "a", "bb", "ccc")
			checkDone(t, c, f, "f", line+"W", Result{Out: fmt.Sprintln(len(want)), Name: "f"})
			checkFiles(t, f, "f", had+want, "other", "x")
			if !c.Dirty() {
				t.Errorf("%sW: clean", line)
			}
		}
	}
}

// P24.1: w is of all lines, and of the editor's file, or the buffer is not clean; if the editor had none, the file is that from here on.
func TestWriteAndNames(t *testing.T) {
	for _, x := range []struct {
		name, line, want string
		wrote            bool
	}{
		{"", "w f", "f", true}, {"f", "w", "f", true}, {"f", "w f", "f", true}, {"g", "w f", "g", false}, {"log", "w f", "log", false}, {"fg", "w f", "fg", false}, {"f", "w fg", "f", false}, {"F", "w f", "F", false},
		{"", "1w f", "f", false}, {"f", "2w", "f", false}, {"", "%w f", "f", true}, {"g", "%w f", "g", false}, {"f", "1,2w f", "f", true}, {"f", "2,2w f", "f", false},
		{"", "W f", "f", false}, {"f", "W", "f", false}, {"f", "W f", "f", false}, {"g", "W f", "g", false}, {"", "1W f", "f", false}, {"f", "%W", "f", false},
	} {
		for _, c := range []*core.Core{buffer(t, "a", "b"), dirty(t, "a", "b")} {
			out := "4\n"
			if strings.Contains("12", x.line[:1]) && !strings.HasPrefix(x.line, "1,2") {
				out = "2\n"
			}
			was := c.Dirty()
			checkDone(t, c, made(t, 100), x.name, x.line, Result{Out: out, Name: x.want, Wrote: x.wrote})
			if c.Dirty() != (was && !x.wrote) {
				t.Errorf("%s, %q: dirty is %t", x.line, x.name, c.Dirty())
			}
		}
	}
	c := dirty(t, "a")
	checkDone(t, c, made(t, 100), "", "1w f", Result{Out: "2\n", Name: "f", Wrote: true})
}

// P24.1: of a buffer without lines nothing is written, but by addresses.
func TestWriteOfNoLines(t *testing.T) {
	for _, line := range []string{"w", "w f", "W", "W f"} {
		wrote := line[0] == 'w'
		f := made(t, 100)
		c := dirty(t)
		checkDone(t, c, f, "f", line, Result{Out: "0\n", Name: "f", Wrote: wrote})
		checkFiles(t, f, "f", "")
		if c.Dirty() == wrote {
			t.Errorf("%s: dirty is %t", line, c.Dirty())
		}
		f = made(t, 100, "f", "old")
		checkDone(t, dirty(t), f, "f", line, Result{Out: "0\n", Name: "f", Wrote: wrote})
		if wrote {
			checkFiles(t, f, "f", "")
		} else {
			checkFiles(t, f, "f", "old")
		}
	}
	for _, line := range []string{"0w", ".w", "$w", "0,0w", "0,$w", "%w", ",w", ";w", "1w", "0W", "$W", "%W", "+-w"} {
		checkErr(t, buffer(t), made(t, 100, "f", "old"), "f", line, api.ErrAddress)
	}
}

// P24.1: the errors of w and W, each ahead of those behind it.
func TestWriteErrors(t *testing.T) {
	f := made(t, 10, "f", "12345678")
	for line, want := range map[string]api.Errno{
		"9w log": api.ErrAddress, "2,1w": api.ErrAddress, "'zw": api.ErrMark, "//w f": api.ErrNoRE, "/q/w log": api.ErrSought, `/\(/w`: api.ErrPattern, "/" + slow + "/w": api.ErrFuel,
		"0w log": api.ErrAddress, "0,2w f": api.ErrAddress, "0w": api.ErrAddress, "0,1w log": api.ErrAddress,
		"w log": api.ErrName, "w": api.ErrName, "1w log+": api.ErrName, "w f": api.ErrFull, "2w f": api.ErrFull, "w g": api.ErrFull, "2w g": api.ErrFull,
	} {
		for _, c := range []*core.Core{buffer(t, slowLine, "bb"), dirty(t, slowLine, "bb")} {
			checkErr(t, c, f, "", line, want)
			checkErr(t, c, f, "", strings.Replace(line, "w", "W", 1), want)
		}
	}
	checkFiles(t, f, "f", "12345678")
}

// P24.1: as W goes by what the file has, an error of saves.Load is told, but that it is not there.
func TestWriteBehindWhatThereIs(t *testing.T) {
	f := made(t, 100, "f", "x\n")
	c := buffer(t, "a", "b")
	checkDone(t, c, f, "", "W g", Result{Out: "4\n", Name: "g"})
	checkDone(t, c, f, "g", "W", Result{Out: "4\n", Name: "g"})
	checkDone(t, c, f, "g", "2W f", Result{Out: "2\n", Name: "g"})
	checkDone(t, c, f, "g", "2W f", Result{Out: "2\n", Name: "g"})
	checkFiles(t, f, "f", "x\nb\nb\n", "g", "a\nb\na\nb\n")
	if e := f.Crash(nil); e != api.OK {
		t.Fatal(e)
	}
	if r, e := Run(c, f, "g", read(t, "W"), false); e != api.ErrDown {
		t.Error(r, e)
	}
	f.Start()
	checkFiles(t, f, "f", "x\nb\nb\n", "g", "a\nb\na\nb\n")
}

// P24.1: f.
func TestCall(t *testing.T) {
	f := made(t, 100)
	for _, c := range []*core.Core{buffer(t, "a"), dirty(t, "a"), buffer(t)} {
		checkDone(t, c, f, "f", "f", Result{Out: "f\n", Name: "f"})
		checkDone(t, c, f, "", "f new", Result{Out: "new\n", Name: "new"})
		checkDone(t, c, f, "f", "f new", Result{Out: "new\n", Name: "new"})
		checkDone(t, c, f, "log", "f new", Result{Out: "new\n", Name: "new"})
		checkDone(t, c, f, "f", "f 1234567890123456", Result{Out: "1234567890123456\n", Name: "1234567890123456"})
		checkErr(t, c, f, "", "f", api.ErrName)
		checkErr(t, c, f, "f", "f log", api.ErrName)
		for _, line := range []string{"1f log", "0f", ".f f", "%f", ",f", "/a/f", "9f"} {
			checkErr(t, c, f, "f", line, api.ErrAddress)
			checkErr(t, c, f, "", line, api.ErrAddress)
		}
	}
	checkFiles(t, f)
}

// P24.1: q and Q.
func TestQuit(t *testing.T) {
	f := made(t, 100)
	for _, name := range []string{"", "f", "log"} {
		for _, line := range []string{"q", "Q"} {
			for _, force := range []bool{false, true} {
				for _, c := range []*core.Core{buffer(t), buffer(t, "a"), dirty(t), dirty(t, "a")} {
					want := api.OK
					if c.Dirty() && line == "q" && !force {
						want = api.ErrDirty
					}
					r, e := do(t, c, f, name, read(t, line), force)
					if e != want || e == api.OK && (!r.End || r.Name != name || r.Out != "" || r.Wrote || r.Anew || len(r.Change) > 0) {
						t.Errorf("%s, %q, %t: %v, %+v", line, name, force, e, r)
					}
					for _, at := range []string{"1", "0", ".", "%", ",", "9", "/q/"} {
						if _, e := do(t, c, f, name, read(t, at+line), force); e != api.ErrAddress {
							t.Errorf("%s%s: %v", at, line, e)
						}
					}
				}
			}
		}
	}
	checkFiles(t, f)
}

// P24.1: what a command has that does not belong to it says nothing.
func TestWhatDoesNotBelong(t *testing.T) {
	for _, line := range []string{"e", "E", "r", "w", "W", "f", "q", "Q"} {
		x := read(t, line)
		c, f := buffer(t, "a", "b"), made(t, 100, "f", "x\n")
		x.Letter, x.Re, x.Repl, x.Sub, x.Nth, x.All, x.Print, x.Dest = 'a', `\(`, `\`, "d", -1, true, 'n', api.Address{Kind: 99}
		x.Range.Semi = []bool{true}
		r, e := do(t, c, f, "f", x, false)
		c, f = buffer(t, "a", "b"), made(t, 100, "f", "x\n")
		want, _ := do(t, c, f, "f", read(t, line), false)
		if e != api.OK || r.Out != want.Out || r.Name != want.Name || r.End != want.End || r.Wrote != want.Wrote {
			t.Errorf("%s: %v, %+v, not %+v", line, e, r, want)
		}
	}
	for _, line := range []string{"q", "Q"} {
		x := read(t, line)
		x.Name2 = "log"
		if r, e := do(t, buffer(t), made(t, 100), "f", x, false); e != api.OK || r.Name != "f" || !r.End {
			t.Errorf("%s: %v, %+v", line, e, r)
		}
	}
}

// P24.1: the pattern that addr.Eval used is the last one, whatever becomes of the command then; with its own error there is none.
func TestLastPattern(t *testing.T) {
	for _, x := range []struct {
		line string
		want string
		e    api.Errno
	}{
		{"/b/w", "b", api.OK}, {"/b/W", "b", api.OK}, {"/b/r", "b", api.OK}, {"/a/;/b/r", "b", api.OK}, {"1w", "was", api.OK}, {"w", "was", api.OK}, {"r", "was", api.OK},
		{"/b/w log", "b", api.ErrName}, {"/b/r none", "b", api.ErrNone}, {"/b/r long", "b", api.ErrLong}, {"/b/-2w", "b", api.ErrAddress}, {"/b/-2,/a/w", "a", api.ErrAddress},
		{"/q/w", "was", api.ErrSought}, {"/b/,/q/r", "was", api.ErrSought}, {"/b/;9r", "was", api.ErrAddress}, {"/b/e", "was", api.ErrAddress}, {"/b/q", "was", api.ErrAddress}, {"/b/f", "was", api.ErrAddress},
	} {
		c := buffer(t, "a", "b", "c")
		c.Last("was")
		_, e := do(t, c, made(t, 10000, "f", "x\n", "long", strings.Repeat("x", 1001)), "f", read(t, x.line), false)
		if got := c.View().Last; got != x.want || e != x.e {
			t.Errorf("%s: %v, %q, not %q", x.line, e, got, x.want)
		}
	}
}

// R4: neither a result nor a buffer shares memory with what was handed in, or with another one.
func TestMemory(t *testing.T) {
	f := made(t, 100, "f", "x\ny\n")
	c := buffer(t, "a")
	x := read(t, "1r f")
	for range 2 {
		r, e := Run(c, f, "", x, false)
		if e != api.OK {
			t.Fatal(e)
		}
		r.Change[0].Ins[0] = "spoilt"
		r.Change[0] = api.Splice{At: 99}
	}
	checkLines(t, c, 3, "a", "x", "y", "x", "y")
	if len(x.Range.List) != 1 || x.Range.List[0].N != 1 {
		t.Error(x)
	}
	if _, e := c.Undo(); e != api.OK {
		t.Error(e)
	}
	checkLines(t, c, 3, "a", "x", "y")
	r, _ := Run(c, f, "f", read(t, "E"), false)
	other, _ := Run(c, f, "f", read(t, "E"), false)
	if e := change(r.Core, api.Splice{Del: 2}); e != api.OK {
		t.Error(e)
	}
	checkLines(t, other.Core, 2, "x", "y")
	checkLines(t, c, 3, "a", "x", "y")
}

// R2: two file systems know nothing of one another.
func TestFileSystemsAreOfTheirOwn(t *testing.T) {
	c := buffer(t, "a")
	all := []*files.FS{made(t, 100), made(t, 100)}
	checkDone(t, c, all[0], "", "w f", Result{Out: "2\n", Name: "f", Wrote: true})
	checkErr(t, c, all[1], "f", "e", api.ErrNone)
	checkFiles(t, all[1])
}
