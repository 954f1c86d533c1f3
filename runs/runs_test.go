package runs

import (
	"fmt"
	"slices"
	"strings"
	"testing"

	"inkhorn/api"
	"inkhorn/cmds"
	"inkhorn/core"
	"inkhorn/regs"
	"inkhorn/splices"
)

// act is a command in a buffer, and what comes of it. Lines are told with a bar between each two; no byte: there are none.
type act struct {
	lines string
	cur   int
	line  string // the command line
	text  string
	out   string
	want  string // the lines behind it
	then  int    // the current line behind it
}

// list is the lines that a text tells.
func list(s string) []string {
	if s == "" {
		return nil
	}
	return strings.Split(s, "|")
}

// buffer is a buffer of lines.
func buffer(t *testing.T, cur int, l ...string) *core.Core {
	t.Helper()
	c, e := core.New(l)
	if e != api.OK {
		t.Fatalf("%.80q: %v", l, e)
	}
	if e := c.Go(cur); e != api.OK {
		t.Fatal(cur, e)
	}
	return c
}

// read is the command that a line says.
func read(t *testing.T, line string) api.Cmd {
	t.Helper()
	x, e := cmds.Parse(line)
	if e != api.OK {
		t.Fatalf("%s: %v", line, e)
	}
	return x
}

// stand is all that a buffer has, but for what an undo brings back.
type stand struct {
	lines []string
	cur   int
	marks api.Marks
	last  string
	regs  string
	dirty bool
}

func standOf(c *core.Core) stand {
	v := c.View()
	return stand{lines: v.Lines, cur: v.Cur, marks: v.Marks, last: v.Last, regs: told(c.Regs()), dirty: c.Dirty()}
}

// told is all that registers have, as a text.
func told(r *regs.Regs) string {
	var b strings.Builder
	for letter := range byte(128) {
		if x, e := r.Get(letter); e == api.OK {
			fmt.Fprintf(&b, "%q %q %t\n", letter, x.Lines, x.Whole)
		}
	}
	return b.String()
}

// same tells whether both are the same, but for the pattern that was used last.
func (s stand) same(o stand) bool {
	return slices.Equal(s.lines, o.lines) && s.cur == o.cur && s.marks == o.marks && s.regs == o.regs && s.dirty == o.dirty
}

// do does a command, and holds what is promised of all of them against what came of it. (What it leaves is as if nothing had been undone behind it.)
func do(t *testing.T, c *core.Core, x api.Cmd, text []string) (out string, l []api.Splice, e api.Errno) {
	t.Helper()
	ahead := standOf(c)
	out, l, e = Run(c, x, text)
	behind := standOf(c)
	if e != api.OK && (out != "" || len(l) > 0 || !behind.same(ahead)) {
		t.Fatalf("%+v: %v, %q, %v; %+v, not %+v", x, e, out, l, behind, ahead)
	}
	lead, e2 := splices.All(ahead.lines, l)
	if e2 != api.OK || !slices.Equal(lead, behind.lines) {
		t.Fatalf("%+v: %v leads to %.200q, not %.200q", x, l, lead, behind.lines)
	}
	if len(l) == 0 {
		if behind.dirty != ahead.dirty {
			t.Fatalf("%+v: dirty %t", x, behind.dirty)
		}
		return out, l, e
	}
	if !behind.dirty {
		t.Fatalf("%+v: not dirty", x)
	}
	undone(t, c, ahead, behind)
	return out, l, e
}

// undone undoes what led from a stand to another one, and does it again.
func undone(t *testing.T, c *core.Core, ahead, behind stand) {
	t.Helper()
	for _, want := range []stand{ahead, behind} {
		_, _, e := Run(c, api.Cmd{Name: 'u'}, nil)
		if now := standOf(c); e != api.OK || !slices.Equal(now.lines, want.lines) || now.marks != want.marks || now.cur != want.cur {
			t.Fatalf("%v: %+v, not %+v", e, now, want)
		}
	}
}

// check does acts, each in a buffer of its own, all lines of which are marked.
func check(t *testing.T, acts ...act) {
	t.Helper()
	for _, a := range acts {
		c := buffer(t, a.cur, list(a.lines)...)
		for i := range min(c.N(), 26) {
			c.Mark('a'+byte(i), i+1)
		}
		out, _, e := do(t, c, read(t, a.line), list(a.text))
		if e != api.OK || out != a.out || !slices.Equal(c.View().Lines, list(a.want)) || c.Cur() != a.then {
			t.Errorf("%s at %d, %s: %v; %q, %q, %d, not %q, %s, %d", a.lines, a.cur, a.line, e, out, c.View().Lines, c.Cur(), a.out, a.want, a.then)
		}
	}
}

// checkError does a command line that is to be told as an error.
func checkError(t *testing.T, lines string, cur int, line string, want api.Errno) {
	t.Helper()
	c := buffer(t, cur, list(lines)...)
	c.Mark('a', min(1, c.N()))
	c.Regs().Push(api.Reg{Lines: []string{"r"}, Whole: true})
	if _, _, e := do(t, c, read(t, line), []string{"new"}); e != want {
		t.Errorf("%s at %d, %s: %v, not %v", lines, cur, line, e, want)
	}
}

// script does command lines, one by one, in a buffer, and tells all that they told.
func script(t *testing.T, c *core.Core, rows ...string) string {
	t.Helper()
	var b strings.Builder
	for _, row := range rows {
		out, _, e := do(t, c, read(t, row), nil)
		if e != api.OK {
			t.Fatalf("%s: %v", row, e)
		}
		b.WriteString(out)
	}
	return b.String()
}

// checkLines holds a buffer's lines and its current one against what they ought to be.
func checkLines(t *testing.T, c *core.Core, want string, cur int) {
	t.Helper()
	if l := c.View().Lines; !slices.Equal(l, list(want)) || c.Cur() != cur {
		t.Errorf("%q, %d, not %s, %d", l, c.Cur(), want, cur)
	}
}

// checkMarks holds the marks from a on against what they ought to be.
func checkMarks(t *testing.T, c *core.Core, want ...int) {
	t.Helper()
	m := c.View().Marks
	if !slices.Equal(m[:len(want)], want) {
		t.Errorf("%v, not %v", m, want)
	}
}

// checkReg holds what a register has against what it ought to have: whole lines.
func checkReg(t *testing.T, c *core.Core, letter byte, want string) {
	t.Helper()
	x, e := c.Regs().Get(letter)
	if want == "" && e == api.ErrReg {
		return
	}
	if e != api.OK || !slices.Equal(x.Lines, list(want)) || !x.Whole {
		t.Errorf("%q: %v %v, not %s", letter, x, e, want)
	}
}

func TestExamples(t *testing.T) {
	c := buffer(t, 3, "a", "b", "c")
	if out := script(t, c, "1,2p", "2n", "1l"); out != "a\nb\n2\tb\na$\n" {
		t.Errorf("%q", out)
	}
	c = buffer(t, 3, "a", "b", "c")
	script(t, c, "1d")
	checkLines(t, c, "b|c", 1)
	script(t, c, "u")
	checkLines(t, c, "a|b|c", 3)
	script(t, c, "1,2j")
	checkLines(t, c, "ab|c", 1)
	c = buffer(t, 3, "a", "b", "c")
	script(t, c, "1m$")
	checkLines(t, c, "b|c|a", 3)
	script(t, c, "2t0")
	checkLines(t, c, "c|b|c|a", 1)
	c = buffer(t, 3, "b", "a", "b", "c")
	script(t, c, "1,$s/[ac]/x&/")
	checkLines(t, c, "b|xa|b|xc", 4)
	c = buffer(t, 3, "a", "b", "c")
	script(t, c, "g/./m0")
	checkLines(t, c, "c|b|a", 1)
	script(t, c, "v/b/d")
	checkLines(t, c, "b", 1)
	checkError(t, "a|b|c", 3, "1,2s/q/r/", api.ErrMatch)
	checkError(t, "a|b|c", 3, "4p", api.ErrAddress)
	checkError(t, "a|b|c", 3, "2,1p", api.ErrAddress)
	check(t, act{"a|b|c", 3, "1m1", "", "", "a|b|c", 1})
}

// P23.1: a buffer that is none is told ahead of all else.
func TestNone(t *testing.T) {
	for _, c := range []*core.Core{nil, new(core.Core)} {
		for name := range 256 {
			for _, r := range []api.Range{{}, {List: []api.Address{{Kind: api.AdNumber, N: 9}}}, {List: []api.Address{{Kind: 77}}}} {
				out, l, e := Run(c, api.Cmd{Name: byte(name), Range: r, Print: 'p', Nth: 1}, []string{"a\nb"})
				if out != "" || l != nil || e != api.ErrNil {
					t.Error(name, out, l, e)
				}
			}
		}
	}
}

// P23.1, P23.3: which commands are these; any other one is told so, ahead of all else.
func TestMine(t *testing.T) {
	mine := "\x00acdgijklmnpstuvz=><YP"
	c := buffer(t, 1, "a")
	nowhere := api.Range{List: []api.Address{{Kind: api.AdNumber, N: 9}}}
	for name := range 256 {
		want := strings.IndexByte(mine, byte(name)) >= 0
		x := api.Cmd{Name: byte(name), Range: nowhere}
		_, _, e := do(t, c, x, nil)
		if Mine(x) != want || want != (e != api.ErrCommand) {
			t.Errorf("%d: %t, %v", name, Mine(x), e)
		}
	}
	c.Begin()
	if _, _, e := Run(c, api.Cmd{Name: 'w'}, nil); e != api.ErrCommand {
		t.Error(e)
	}
}

// P23.1: where a change has begun, all commands are ErrArg, and it goes on.
func TestBegun(t *testing.T) {
	for name := range 256 {
		c := buffer(t, 1, "a", "b")
		c.Begin()
		c.Splice(api.Splice{At: 1, Ins: []string{"x"}})
		c.Regs().Set('q', api.Reg{Lines: []string{"q"}})
		if x := (api.Cmd{Name: byte(name)}); Mine(x) {
			if out, l, e := Run(c, x, nil); out != "" || l != nil || e != api.ErrArg {
				t.Errorf("%d: %q %v %v", name, out, l, e)
			}
		}
		if e := c.Splice(api.Splice{Del: 1}); e != api.OK {
			t.Errorf("%d: %v", name, e)
		}
		checkLines(t, c, "x|b", 1)
		if _, e := c.Regs().Get('q'); e != api.OK || len(c.End()) != 2 {
			t.Errorf("%d: %v", name, e)
		}
	}
}

// P23.1: u, with nothing to undo, with addresses, and there and back.
func TestUndo(t *testing.T) {
	checkError(t, "a|b", 1, "u", api.ErrUndo)
	checkError(t, "", 0, "u", api.ErrUndo)
	for _, line := range []string{"1u", ".u", "1,2u", "9u", "/q/u", ",u"} {
		checkError(t, "a|b", 1, line, api.ErrAddress)
	}
	c := buffer(t, 2, "a", "b", "c")
	c.Mark('x', 3)
	script(t, c, "2,3d")
	checkLines(t, c, "a", 1)
	c.Clean()
	out, l, e := Run(c, read(t, "u"), nil)
	if out != "" || e != api.OK || len(l) != 1 || l[0].At != 0 || l[0].Del != 1 || !slices.Equal(l[0].Ins, []string{"a", "b", "c"}) || !c.Dirty() {
		t.Error(out, l, e)
	}
	checkLines(t, c, "a|b|c", 2)
	if n := c.View().Marks['x'-'a']; n != 3 {
		t.Error(n)
	}
	if _, _, e := Run(c, read(t, "1u"), nil); e != api.ErrAddress {
		t.Error(e)
	}
	// What is told behind others is not told behind it: it tells what core.Undo does.
	out, l, e = Run(c, read(t, "up"), nil)
	if out != "" || e != api.OK || len(l) != 1 || l[0].Del != 3 {
		t.Error(out, l, e)
	}
	checkLines(t, c, "a", 1)
	checkReg(t, c, '1', "b|c") // registers stay
}

// P23.1: an undo goes behind what changed lines alone; what tells something, or changes nothing, is none of that.
func TestUndoGoesBehindChanges(t *testing.T) {
	c := buffer(t, 3, "a", "b", "c")
	script(t, c, "1d", "1,2p", "1m1", "2j", "=", "kx", "ya q", "<", "g/b/p", "u")
	checkLines(t, c, "a|b|c", 3)
	if c.View().Marks['x'-'a'] != 0 {
		t.Error(c.View().Marks)
	}
	checkReg(t, c, 'q', "c")
	if _, _, e := Run(c, read(t, "s/q/r/"), nil); e != api.ErrMatch {
		t.Error(e)
	}
	script(t, c, "u")
	checkLines(t, c, "b|c", 1)
}

// P23.1: the lines of each command without addresses.
func TestLinesUnsaid(t *testing.T) {
	check(t,
		act{"a|b|c", 2, "p", "", "b\n", "a|b|c", 2},
		act{"a|b|c", 2, "n", "", "2\tb\n", "a|b|c", 2},
		act{"a|b|c", 2, "l", "", "b$\n", "a|b|c", 2},
		act{"a|b|c", 2, "d", "", "", "a|c", 2},
		act{"a|b|c", 2, "j", "", "", "a|bc", 2},
		act{"a|b|c", 2, "", "", "c\n", "a|b|c", 3},
		act{"a|b|c", 2, "z1", "", "c\n", "a|b|c", 3},
		act{"a|b|c", 2, "=", "", "3\n", "a|b|c", 2},
		act{"a|b|c", 2, "g/./n", "", "1\ta\n2\tb\n3\tc\n", "a|b|c", 3},
		act{"a|b|c", 2, "v/x/n", "", "1\ta\n2\tb\n3\tc\n", "a|b|c", 3},
		act{"a|b|c", 2, "a", "x", "", "a|b|x|c", 3},
		act{"a|b|c", 2, "i", "x", "", "a|x|b|c", 2},
		act{"a|b|c", 2, "c", "x", "", "a|x|c", 2},
		act{"a|b|c", 2, "m0", "", "", "b|a|c", 1},
		act{"a|b|c", 2, "t0", "", "", "b|a|b|c", 1},
		act{"a|b|c", 2, "s/./x/", "", "", "a|x|c", 2},
		act{"a|b|c", 2, ">", "", "", "a|\tb|c", 2},
		act{"a|b|c", 2, "<", "", "", "a|b|c", 2},
		act{"a|b|c", 2, "kx", "", "", "a|b|c", 2},
		act{"a|b|c", 2, "ya", "", "", "a|b|c", 2},
	)
	checkError(t, "a|b", 2, "", api.ErrAddress)
	checkError(t, "a|b", 2, "z", api.ErrAddress)
	checkError(t, "a|b", 2, "j", api.ErrAddress)
	check(t, act{"a|b", 1, "j", "", "", "ab", 1}, act{"a|b", 0, "", "", "a\n", "a|b", 1}, act{"a|b", 0, "z", "", "a\nb\n", "a|b", 2})
}

// P23.1: a buffer without lines, and a current line that is none.
func TestNoLine(t *testing.T) {
	for _, lines := range []string{"", "a|b"} {
		for _, line := range []string{"d", "j", "kx", "l", "m0", "n", "p", "s/a/b/", "t0", ">", "<", "ya", "m", "t", "m9", "m/q/", "t'b", "sxaxbx"} {
			checkError(t, lines, 0, line, api.ErrAddress)
		}
	}
	checkError(t, "a|b", 0, "c", api.ErrAddress)
	for _, line := range []string{"", "z", ".p", "$p", "0p", "%p", ",p", "%g/a/p", "0g/a/p", "$v/a/p", "%j", ",d"} {
		checkError(t, "", 0, line, api.ErrAddress)
	}
	checkError(t, "", 0, "g/a/p", api.ErrSought)
	checkError(t, "", 0, "v/a/p", api.ErrSought)
	checkError(t, "", 0, "v/a/w", api.ErrSought) // ahead of what is wrong with its command
	checkError(t, "", 0, "1c", api.ErrAddress)
	check(t,
		act{"", 0, "=", "", "0\n", "", 0},
		act{"", 0, "0=p", "", "0\n", "", 0}, // there is no current line that it would tell
		act{"", 0, "a", "x|y", "", "x|y", 2},
		act{"", 0, "i", "x|y", "", "x|y", 2},
		act{"", 0, "c", "x|y", "", "x|y", 2},
		act{"", 0, "0c", "x|y", "", "x|y", 2},
		act{"", 0, "cp", "x|y", "y\n", "x|y", 2},
		act{"", 0, "$a", "x", "", "x", 1},
		act{"", 0, "a", "", "", "", 0},
		act{"", 0, "ip", "", "", "", 0},
		act{"", 0, "c", "", "", "", 0},
		act{"a|b", 0, "a", "x", "", "x|a|b", 1},
		act{"a|b", 0, "i", "x", "", "x|a|b", 1},
		act{"a|b", 0, "ap", "", "", "a|b", 0},
		act{"a|b", 0, "ip", "", "", "a|b", 0},
		act{"a|b", 0, "=p", "", "2\n", "a|b", 0},
	)
	c := buffer(t, 0)
	script(t, c, "c")
	checkReg(t, c, '1', "") // there was nothing that would have gone there
}

// P23.1: lines must lie in the buffer; of some commands the second one alone counts, and may be 0.
func TestLinesSaid(t *testing.T) {
	for _, name := range []string{"c", "d", "j", "kx", "l", "m0", "n", "p", "s/a/b/", "t0", "z", ">", "<", "ya", "", "g/a/p", "v/a/p"} {
		for _, at := range []string{"0", "0,1", "4", "1,4", "4,5", "2,1", "'b", "$+1", ".-3"} {
			want := api.ErrAddress
			if at == "'b" {
				want = api.ErrMark
			}
			checkError(t, "a|b|c", 2, at+name, want)
		}
	}
	for _, name := range []string{"a", "i", "=", "pu"} {
		for _, at := range []string{"4", "1,4", "2,1", "$+1", ".-3"} {
			checkError(t, "a|b|c", 2, at+name, api.ErrAddress)
		}
	}
	check(t,
		act{"a|b|c", 2, "0a", "x", "", "x|a|b|c", 1},
		act{"a|b|c", 2, "0i", "x", "", "x|a|b|c", 1},
		act{"a|b|c", 2, "0=", "", "0\n", "a|b|c", 2},
		act{"a|b|c", 2, "0,2a", "x", "", "a|b|x|c", 3},
		act{"a|b|c", 2, "0,2i", "x", "", "a|x|b|c", 2},
		act{"a|b|c", 2, "1,2=", "", "2\n", "a|b|c", 2},
		act{"a|b|c", 2, "3a", "x", "", "a|b|c|x", 4},
		act{"a|b|c", 2, "3j", "", "", "a|b|c", 3},
		act{"a|b|c", 2, "1j", "", "", "a|b|c", 1},
		act{"a|b|c", 2, "3", "", "c\n", "a|b|c", 3},
		act{"a|b|c", 2, "1,3", "", "c\n", "a|b|c", 3},
		act{"a|b|c", 2, "1,3z1", "", "c\n", "a|b|c", 3},
		act{"a|b|c", 2, "3;.=", "", "3\n", "a|b|c", 2}, // it is the address's current line, not the buffer's
		act{"a|b|c", 1, "/b/;/c/kx", "", "", "a|b|c", 1},
	)
	checkError(t, "a|b|c", 2, "4j", api.ErrAddress)
	checkError(t, "a|b|c", 2, "/q/p", api.ErrSought)
	checkError(t, "a|b|c", 2, "//p", api.ErrNoRE)
	checkError(t, "a|b|c", 2, `/\(/p`, api.ErrPattern)
	for _, r := range []api.Range{
		{List: []api.Address{{Kind: 9}}},
		{List: []api.Address{{Kind: api.AdNumber, N: -1}}},
		{List: []api.Address{{Kind: api.AdDot, Add: 1 << 62}}},
		{List: []api.Address{{Kind: api.AdNumber, N: 3}, {Kind: api.AdNumber, N: 2}}, Semi: []bool{true}},
	} {
		if _, _, e := do(t, buffer(t, 1, "a", "b", "c"), api.Cmd{Name: 'p', Range: r}, nil); e != api.ErrAddress {
			t.Error(r, e)
		}
	}
}

// P23.1: a and i.
func TestText(t *testing.T) {
	check(t,
		act{"a|b|c", 1, "2a", "x|y", "", "a|b|x|y|c", 4},
		act{"a|b|c", 1, "2i", "x|y", "", "a|x|y|b|c", 3},
		act{"a|b|c", 1, "1i", "x|y", "", "x|y|a|b|c", 2},
		act{"a|b|c", 1, "$a", "x|y", "", "a|b|c|x|y", 5},
		act{"a|b|c", 1, "2ap", "x|y", "y\n", "a|b|x|y|c", 4},
		act{"a|b|c", 1, "2il", "x|y", "y$\n", "a|x|y|b|c", 3},
		act{"a|b|c", 1, "3a", "", "", "a|b|c", 3},
		act{"a|b|c", 1, "3i", "", "", "a|b|c", 3},
		act{"a|b|c", 1, "0a", "", "", "a|b|c", 0},
		act{"a|b|c", 1, "0in", "", "", "a|b|c", 0},
		act{"a|b|c", 1, "2an", "", "2\tb\n", "a|b|c", 2},
		act{"a|b|c", 1, "2a", "|", "", "a|b|||c", 4},
		act{"a|b|c", 1, "2i", ".|..", "", "a|.|..|b|c", 3},
	)
	for _, name := range []string{"2a", "2i", "2c"} {
		c := buffer(t, 2, "a", "b", "c")
		for text, want := range map[string]api.Errno{"x\ny": api.ErrArg, strings.Repeat("x", api.MaxBytes+1): api.ErrLong} {
			if _, _, e := do(t, c, read(t, name), []string{"new", text}); e != want {
				t.Errorf("%s: %v, not %v", name, e, want)
			}
		}
		if _, _, e := do(t, c, read(t, name), []string{strings.Repeat("x", api.MaxBytes)}); e != api.OK {
			t.Errorf("%s: %v", name, e)
		}
	}
}

// P23.1: commands that take no text do nothing with it.
func TestTextOfOthers(t *testing.T) {
	for _, line := range []string{"2d", "1,2j", "2kx", "2l", "2m0", "2n", "2p", "2s/b/x/", "2t0", "g/b/s/b/x/", "2z", "=", ">", "<", "2ya", "1"} {
		c, o := buffer(t, 2, "a", "b", "c"), buffer(t, 2, "a", "b", "c")
		out, _, e := do(t, c, read(t, line), []string{"x", "\n"})
		other, _, _ := do(t, o, read(t, line), nil)
		if e != api.OK || out != other || !standOf(c).same(standOf(o)) {
			t.Errorf("%s: %q %v", line, out, e)
		}
	}
}

// P23.1: c and d, and the registers into which lines go.
func TestChangeAndDelete(t *testing.T) {
	check(t,
		act{"a|b|c|d", 1, "2,3d", "", "", "a|d", 2},
		act{"a|b|c|d", 1, "3,4d", "", "", "a|b", 2},
		act{"a|b|c|d", 3, "4d", "", "", "a|b|c", 3},
		act{"a|b|c|d", 3, "%d", "", "", "", 0},
		act{"a|b|c|d", 3, "%dp", "", "", "", 0},
		act{"a|b|c|d", 4, "1d", "", "", "b|c|d", 1},
		act{"a|b|c|d", 4, "1,2dn", "", "1\tc\n", "c|d", 1},
		act{"a|b|c|d", 1, "2,3c", "x|y|z", "", "a|x|y|z|d", 4},
		act{"a|b|c|d", 1, "2,3c", "x", "", "a|x|d", 2},
		act{"a|b|c|d", 1, "2,3c", "", "", "a|d", 2},
		act{"a|b|c|d", 1, "3,4c", "", "", "a|b", 2},
		act{"a|b|c|d", 4, "1,2c", "", "", "c|d", 1},
		act{"a|b|c|d", 1, "%c", "", "", "", 0},
		act{"a|b|c|d", 1, "%cp", "x|y", "y\n", "x|y", 2},
	)
	c := buffer(t, 1, "a", "b", "c", "d", "e")
	script(t, c, "2,3d", "1d")
	do(t, c, read(t, "1c"), []string{"new"})
	checkLines(t, c, "new|e", 1)
	checkReg(t, c, '1', "d")
	checkReg(t, c, '2', "a")
	checkReg(t, c, '3', "b|c")
	checkReg(t, c, '4', "")
	checkReg(t, c, 0, "d")
	checkReg(t, c, 'a', "")
	script(t, c, "u", "u")
	checkReg(t, c, '1', "d")
}

// P23.1: j.
func TestJoin(t *testing.T) {
	check(t,
		act{"a|b|c|d", 4, "1,3j", "", "", "abc|d", 1},
		act{"a|b|c|d", 4, "2,3j", "", "", "a|bc|d", 2},
		act{"a|b|c|d", 1, "%j", "", "", "abcd", 1},
		act{"a|b|c|d", 1, "%jp", "", "abcd\n", "abcd", 1},
		act{"a|b|c|d", 1, "3,3j", "", "", "a|b|c|d", 3},
		act{"a|b|c|d", 1, "3jn", "", "3\tc\n", "a|b|c|d", 3},
		act{"a||  b|\tc", 1, "%j", "", "", "a  b\tc", 1},
	)
	half := strings.Repeat("a", api.MaxBytes/2)
	check(t, act{half + "|" + half, 1, "j", "", "", half + half, 1})
	checkError(t, half+"|"+half+"b", 1, "j", api.ErrLong)
	checkError(t, half+"|"+half+"|b", 1, "%j", api.ErrLong)
	c := buffer(t, 1, "a", "b")
	script(t, c, "j")
	checkReg(t, c, '1', "")
}
