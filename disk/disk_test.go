package disk

import (
	"fmt"
	"slices"
	"strings"
	"testing"

	"inkhorn/api"
	"inkhorn/cmds"
	"inkhorn/core"
	"inkhorn/files"
	"inkhorn/regs"
	"inkhorn/samples"
	"inkhorn/splices"
)

// buffer is a clean buffer of lines, each of the first of which is marked, with text in registers; the last but one line is the current one.
func buffer(t *testing.T, l ...string) *core.Core {
	t.Helper()
	c, e := core.New(l)
	if e != api.OK {
		t.Fatalf("%.80q: %v", l, e)
	}
	for i := range min(c.N(), 26) {
		c.Mark('a'+byte(i), i+1)
	}
	c.Regs().Set('q', api.Reg{Lines: []string{"text"}})
	c.Regs().Push(api.Reg{Lines: []string{"gone"}, Whole: true})
	c.Go(max(0, c.N()-1))
	return c
}

// dirty is such a buffer that was changed, and has these lines.
func dirty(t *testing.T, l ...string) *core.Core {
	t.Helper()
	c := buffer(t, l...)
	if e := change(c, api.Splice{At: c.N()}); e != api.OK || !c.Dirty() {
		t.Fatal(e)
	}
	return c
}

// change does a change of one splice.
func change(c *core.Core, s api.Splice) api.Errno {
	if e := c.Begin(); e != api.OK {
		return e
	}
	if e := c.Splice(s); e != api.OK {
		c.Abort()
		return e
	}
	c.End()
	return api.OK
}

// made is a file system with some files, all of which are synced: a name, and the bytes behind it, and so on.
func made(t *testing.T, size int, has ...string) *files.FS {
	t.Helper()
	f, e := files.New(size)
	if e != api.OK {
		t.Fatal(e)
	}
	for i := 0; i < len(has); i += 2 {
		if f.Append(has[i], has[i+1]) != api.OK || f.Sync(has[i]) != api.OK {
			t.Fatal(has[i])
		}
	}
	return f
}

// read is the command that a line says.
func read(t *testing.T, line string) api.Cmd {
	t.Helper()
	x, e := cmds.Parse(line)
	if e != api.OK {
		t.Fatalf("%s: %v", line, e)
	}
	return x
}

// stand is all that a buffer has, but for what an undo brings back.
type stand struct {
	lines []string
	cur   int
	marks api.Marks
	last  string
	regs  string
	dirty bool
}

func standOf(c *core.Core) stand {
	v := c.View()
	return stand{lines: v.Lines, cur: v.Cur, marks: v.Marks, last: v.Last, regs: told(c.Regs()), dirty: c.Dirty()}
}

// told is all that registers have, as a text.
func told(r *regs.Regs) string {
	var b strings.Builder
	for letter := range byte(128) {
		if x, e := r.Get(letter); e == api.OK {
			fmt.Fprintf(&b, "%q %q %t\n", letter, x.Lines, x.Whole)
		}
	}
	return b.String()
}

// same tells whether both are the same, but for the pattern that was used last.
func (s stand) same(o stand) bool {
	return slices.Equal(s.lines, o.lines) && s.cur == o.cur && s.marks == o.marks && s.regs == o.regs && s.dirty == o.dirty
}

// filesOf is all files, but for the draft of package saves: a name, and the bytes behind it, and so on. (What is off is asked when it is started.)
func filesOf(t *testing.T, f *files.FS) []string {
	t.Helper()
	var l []string
	for _, name := range f.Names() {
		if name == "~" {
			continue
		}
		text, e := f.Read(name)
		if e != api.OK {
			t.Fatal(name, e)
		}
		l = append(l, name, text)
	}
	return l
}

// checkFiles tells where there are other files than these.
func checkFiles(t *testing.T, f *files.FS, want ...string) {
	t.Helper()
	if got := filesOf(t, f); !slices.Equal(got, want) {
		t.Errorf("%.200q, not %.200q", got, want)
	}
}

// do does a command while the file system is on, and holds what is promised of all of them against what came of it. (What it leaves is as if nothing had been undone behind it.)
func do(t *testing.T, c *core.Core, f *files.FS, name string, x api.Cmd, force bool) (Result, api.Errno) {
	t.Helper()
	ahead, had := standOf(c), filesOf(t, f)
	r, e := Run(c, f, name, x, force)
	behind, has := standOf(c), filesOf(t, f)
	if !strings.Contains("wW", string(rune(x.Name))) && !slices.Equal(had, has) {
		t.Fatalf("%+v: %.200q, not %.200q", x, has, had)
	}
	if e != api.OK {
		checkNothing(t, r)
		if !behind.same(ahead) || !slices.Equal(had, has) {
			t.Fatalf("%+v, %v: %.300v, not %.300v; %.200q, not %.200q", x, e, behind, ahead, has, had)
		}
		return r, e
	}
	if (r.Core != c) != r.Anew || r.Core == nil {
		t.Fatalf("%+v: the buffer is another one: %t", x, r.Core != c)
	}
	if len(r.Change) > 0 {
		checkChange(t, c, ahead, behind, r.Change)
		return r, e
	}
	if r.Wrote {
		ahead.dirty = false
	}
	if !behind.same(ahead) {
		t.Fatalf("%+v: %.300v, not %.300v", x, behind, ahead)
	}
	return r, e
}

// checkNothing tells where a result that stands beside an error tells something.
func checkNothing(t *testing.T, r Result) {
	t.Helper()
	if r.Out != "" || r.Core != nil || r.Name != "" || len(r.Change) > 0 || r.End || r.Wrote || r.Anew {
		t.Fatalf("%+v", r)
	}
}

// checkChange tells where a change does not lead from a stand to another one, or is not undone, and done again.
func checkChange(t *testing.T, c *core.Core, ahead, behind stand, l []api.Splice) {
	t.Helper()
	lead, e := splices.All(ahead.lines, l)
	if e != api.OK || !slices.Equal(lead, behind.lines) || !behind.dirty || behind.regs != ahead.regs {
		t.Fatalf("%v leads to %.200q, not %.200q", l, lead, behind.lines)
	}
	for _, want := range []stand{ahead, behind} {
		_, e := c.Undo()
		if now := standOf(c); e != api.OK || !slices.Equal(now.lines, want.lines) || now.marks != want.marks || now.cur != want.cur {
			t.Fatalf("%v: %.300v, not %.300v", e, now, want)
		}
	}
}

// checkErr tells where a command answers another error than one, and where it does more than that with it.
func checkErr(t *testing.T, c *core.Core, f *files.FS, name string, line string, want api.Errno) {
	t.Helper()
	if r, e := do(t, c, f, name, read(t, line), false); e != want {
		t.Errorf("%s, %q: %+v, %v, not %v", line, name, r, e, want)
	}
}

// checkDone tells where a command answers something else than a result, but for its buffer and change; it answers that result.
func checkDone(t *testing.T, c *core.Core, f *files.FS, name string, line string, want Result) Result {
	t.Helper()
	r, e := do(t, c, f, name, read(t, line), false)
	got := Result{Out: r.Out, Name: r.Name, End: r.End, Wrote: r.Wrote, Anew: r.Anew}
	if e != api.OK || fmt.Sprint(got) != fmt.Sprint(want) {
		t.Errorf("%s, %q: %v, %+v, not %+v", line, name, e, got, want)
	}
	return r
}

// checkLines tells where a buffer has other lines than these, or another current one.
func checkLines(t *testing.T, c *core.Core, cur int, want ...string) {
	t.Helper()
	if v := c.View(); !slices.Equal(v.Lines, want) || v.Cur != cur {
		t.Errorf("%.200q at %d, not %.200q at %d", v.Lines, v.Cur, want, cur)
	}
}

// The examples of the document.
func TestExamples(t *testing.T) {
	c, f := buffer(t, "a", "b"), made(t, 1000)
	checkErr(t, c, f, "", "w", api.ErrName)
	name := checkDone(t, c, f, "", "w out", Result{Out: "4\n", Name: "out", Wrote: true}).Name
	name = checkDone(t, c, f, name, "f", Result{Out: "out\n", Name: "out"}).Name
	r := checkDone(t, c, f, name, "e", Result{Out: "4\n", Name: "out", Anew: true})
	c = r.Core
	checkLines(t, c, 2, "a", "b")
	checkDone(t, c, f, name, "1r", Result{Out: "4\n", Name: "out"})
	checkLines(t, c, 3, "a", "a", "b", "b")

	checkErr(t, c, f, name, "q", api.ErrDirty)
	checkErr(t, c, f, name, "e", api.ErrDirty)
	r = checkDone(t, c, f, name, "E", Result{Out: "4\n", Name: "out", Anew: true})
	c = r.Core
	checkDone(t, c, f, name, "q", Result{Name: "out", End: true})

	checkErr(t, c, f, name, "w log", api.ErrName)
	checkErr(t, c, f, name, "0w", api.ErrAddress)
	checkErr(t, c, f, name, "r none", api.ErrNone)
}

// P24.2
func TestMine(t *testing.T) {
	mine := map[byte]bool{'e': true, 'E': true, 'f': true, 'r': true, 'w': true, 'W': true, 'q': true, 'Q': true}
	for name := range 256 {
		x := api.Cmd{Name: byte(name)}
		if Mine(x) != mine[byte(name)] {
			t.Errorf("%d", name)
		}
		x.Name2, x.Range = "out", api.Range{List: []api.Address{{Kind: api.AdDot}}}
		if Mine(x) != mine[byte(name)] {
			t.Errorf("%d, with a name and an address", name)
		}
	}
}

// P24.2
func TestName(t *testing.T) {
	for b := range 256 {
		s := string([]byte{byte(b)})
		ok := b >= 33 && b <= 125
		for _, ahead := range []string{"", "a", "{!", "lo", "Log", "123456789012345"} {
			if Name(ahead+s) != (ok && ahead+s != "log") {
				t.Errorf("%q", ahead+s)
			}
		}
		if Name(s+"a") != ok || Name(s+s) != ok || Name("a"+s+"a") != ok {
			t.Errorf("%q", s)
		}
	}
	for _, s := range []string{"a", "f", "!ls", "..", "/", "lo", "Log", "LOG", "alog", "lolog", "1234567890123456", strings.Repeat("}", 16), "lo" + strings.Repeat("!", 14)} {
		if !Name(s) {
			t.Errorf("%q", s)
		}
	}
	for _, s := range []string{"", "log", "log+", "logs", "log1", "login", "log" + strings.Repeat("a", 13), "log" + strings.Repeat("a", 14), "log ", "12345678901234567", strings.Repeat("a", 1000), "~", "a~", "~a", "a b", " a", "a ", "\ta", "a\n", "\x00", "a\x7f", "\xc3\xa9", "\xff"} {
		if Name(s) {
			t.Errorf("%q", s)
		}
	}
	for _, s := range samples.Texts("log~ ", 5) {
		if Name(s) != (s != "" && !strings.HasPrefix(s, "log") && !strings.ContainsAny(s, "~ ")) {
			t.Errorf("%q", s)
		}
	}
}

// P24.1: a buffer that is none, ahead of all else; then what is none of these commands.
func TestRunOfNone(t *testing.T) {
	f := made(t, 100, "out", "a\n")
	down := made(t, 100)
	down.Crash(nil)
	for name := range 256 {
		x := api.Cmd{Name: byte(name), Name2: "out"}
		for _, fs := range []*files.FS{f, down, nil, {}} {
			for _, c := range []*core.Core{nil, {}, new(core.Core)} {
				for _, force := range []bool{false, true} {
					r, e := Run(c, fs, "out", x, force)
					checkNothing(t, r)
					if e != api.ErrNil {
						t.Errorf("%d: %v", name, e)
					}
				}
			}
			if Mine(x) {
				continue
			}
			for _, c := range []*core.Core{buffer(t, "a"), dirty(t, "a")} {
				ahead := standOf(c)
				r, e := Run(c, fs, "", x, true)
				checkNothing(t, r)
				if e != api.ErrCommand || !ahead.same(standOf(c)) {
					t.Errorf("%d: %v", name, e)
				}
			}
		}
	}
	checkFiles(t, f, "out", "a\n")
}

// P24.1, R1: what a file system that is none, or off, answers is told just where it is asked.
func TestFileSystemsThatAreNoUse(t *testing.T) {
	down := made(t, 100, "out", "a\n")
	down.Crash(nil)
	for fs, useless := range map[*files.FS]api.Errno{nil: api.ErrNil, {}: api.ErrNil, down: api.ErrDown} {
		for line, want := range map[string]api.Errno{
			"e": useless, "E": useless, "r": useless, "w": useless, "W": useless, "0r": useless, "1w": useless, "e none": useless, "W none": useless,
			"1e": api.ErrAddress, "9r": api.ErrAddress, "0w": api.ErrAddress, "9W": api.ErrAddress, "1f": api.ErrAddress, "1q": api.ErrAddress,
			"e log": api.ErrName, "r log": api.ErrName, "w log": api.ErrName, "W log": api.ErrName, "f log": api.ErrName,
			"f": api.OK, "f new": api.OK, "q": api.OK, "Q": api.OK,
		} {
			c := buffer(t, "a", "b")
			ahead := standOf(c)
			r, e := Run(c, fs, "out", read(t, line), false)
			if e != want || !ahead.same(standOf(c)) {
				t.Errorf("%s: %v, not %v", line, e, want)
			}
			if e != api.OK {
				checkNothing(t, r)
			}
		}
		_, e := Run(dirty(t, "a"), fs, "out", read(t, "e"), false)
		if e != api.ErrDirty {
			t.Errorf("e of what was changed: %v", e)
		}
	}
}

// P24.1: the file that is meant, of all commands that mean one.
func TestMeantFile(t *testing.T) {
	for _, line := range []string{"e", "E", "r", "w", "W", "f"} {
		for _, name := range []string{"", "log", "log+", "a b", "~", "12345678901234567"} {
			x := read(t, line)
			f := made(t, 100, "other", "x\n")
			if r, e := do(t, buffer(t, "a"), f, name, x, false); e != api.ErrName {
				t.Errorf("%s of %q: %+v, %v", line, name, r, e)
			}
			x.Name2 = name
			if name == "" {
				continue
			}
			if r, e := do(t, buffer(t, "a"), f, "other", x, false); e != api.ErrName {
				t.Errorf("%s %s: %+v, %v", line, name, r, e)
			}
			// A name that is none is a name that the editor has, as long as another file is meant.
			x.Name2 = "other"
			want := name
			if strings.Contains("eEf", line) {
				want = "other"
			}
			if r, e := do(t, buffer(t, "a"), f, name, x, false); e != api.OK || r.Name != want || r.Wrote {
				t.Errorf("%s other, of %q: %+v, %v", line, name, r, e)
			}
		}
	}
}
