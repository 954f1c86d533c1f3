package runs

import (
	"slices"
	"strconv"
	"strings"
	"testing"

	"inkhorn/api"
	"inkhorn/regs"
)

// P23.2: what of a global command may be wrong, in the order in which it is told.
func TestGlobalErrors(t *testing.T) {
	for line, want := range map[string]api.Errno{
		"4g/q/w": api.ErrAddress, "/q/g/q/w": api.ErrSought, "g/a/x": api.ErrCommand, "g/a/pq": api.ErrSuffix, "g/a/'": api.ErrAddress, "g/a/s/a": api.ErrPattern, `g/a/s/a/\`: api.ErrRepl,
		"g/a/w": api.ErrGlobal, "g/a/q": api.ErrGlobal, "g/a/e f": api.ErrGlobal, "g/a/h": api.ErrGlobal, "g/a/a": api.ErrGlobal, "g/a/c": api.ErrGlobal, "g/a/i": api.ErrGlobal, "g/a/g/b/p": api.ErrGlobal, "g/a/v/b/p": api.ErrGlobal, "g/a/u": api.ErrGlobal, "v/a/u": api.ErrGlobal, "g/a/1,2u": api.ErrGlobal,
		"g//w": api.ErrGlobal, "g//p": api.ErrNoRE, "g/q/p": api.ErrSought, "v/./p": api.ErrSought, "1g/b/p": api.ErrSought, "g//x": api.ErrCommand,
		"g/a/9p": api.ErrAddress, "g/b/m9": api.ErrAddress, "g/./+p": api.ErrAddress, "g/./j": api.ErrAddress, "g/a/-m0": api.ErrAddress, "g/./-m0": api.ErrAddress, "g/b/-,+m.": api.ErrDest, "g/a/pu x": api.ErrReg, "g/a/'bp": api.ErrMark, "g/a//q/p": api.ErrSought,
	} {
		checkError(t, "a|b|c", 3, line, want)
	}
	checkError(t, "a|b|c", 3, "g/[ab]/-kz", api.ErrAddress)
	for sub, want := range map[string]api.Errno{"s/a/x/pq": api.ErrSuffix, "1234567890p": api.ErrAddress, "Y": api.ErrCommand, "P": api.ErrCommand, "y": api.ErrCommand, "!ls": api.ErrCommand} {
		checkError(t, "a", 1, "g/a/"+sub, want)
	}
}

// P23.2: what was made by hand, as far as none of that comes from a command line.
func TestGlobalByHand(t *testing.T) {
	for _, a := range []struct {
		x    api.Cmd
		last string
		out  string
		want api.Errno
	}{
		{api.Cmd{Name: 'g', Re: "a"}, "", "ba\nc\n", api.OK}, // no bytes are a command line that tells the next line
		{api.Cmd{Name: 'g', Re: "a", Sub: "n", Print: 'l'}, "", "1\ta\n2\tba\nba$\n", api.OK},
		{api.Cmd{Name: 'v', Re: "a", Sub: "0=", Print: 'p'}, "", "0\nc\n", api.OK},
		{api.Cmd{Name: 'g', Re: "a", Sub: "%d", Print: 'p'}, "", "", api.OK}, // no line is left that could be told
		{api.Cmd{Name: 'g', Sub: "p"}, "b", "ba\n", api.OK},
		{api.Cmd{Name: 'g', Sub: "p"}, `\(`, "", api.ErrPattern},
		{api.Cmd{Name: 'g', Re: `\(`, Sub: "p"}, "a", "", api.ErrPattern},
		{api.Cmd{Name: 'v', Re: `\(`, Sub: "p"}, "a", "", api.ErrPattern},
		{api.Cmd{Name: 'g', Re: `\(`, Sub: "w"}, "a", "", api.ErrGlobal},
		{api.Cmd{Name: 'g', Re: `\(`, Sub: "x"}, "a", "", api.ErrCommand},
	} {
		c := buffer(t, 3, "a", "ba", "c")
		c.Last(a.last)
		if out, _, e := do(t, c, a.x, nil); out != a.out || e != a.want {
			t.Errorf("%+v: %q %v", a, out, e)
		}
	}
}

// P23.2: an error in one of the lines leaves nothing of what was done for those ahead of it.
func TestGlobalFailsLate(t *testing.T) {
	for line, want := range map[string]api.Errno{
		"g/./+2m0": api.ErrAddress, "g/./+ya X": api.ErrAddress, "g/./+ka": api.ErrAddress, "g/./.,+>": api.OK, "g/./+p": api.ErrAddress, "g/./-d": api.ErrAddress, "g/./s/[abc]/x/p": api.OK, "g/./s/d*$/" + strings.Repeat("&", api.MaxBytes+1) + "/": api.ErrLong, "g/./m'a": api.OK, "g/./t/[abc]/-": api.OK, "g/[bcd]/-,+m.": api.ErrDest, "g/./m'z": api.ErrMark, "g/./pu y": api.ErrReg, "g/./d": api.OK, "g/./'ad": api.ErrMark,
	} {
		c := buffer(t, 2, "a", "b", "c", "d")
		c.Mark('a', 3)
		c.Regs().Set('x', api.Reg{Lines: []string{"x"}})
		if _, _, e := do(t, c, read(t, line), nil); e != want {
			t.Errorf("%.40s: %v, not %v", line, e, want)
		}
	}
}

// P23.2: registers, marks and what is told add up, in order.
func TestGlobalAddsUp(t *testing.T) {
	c := buffer(t, 1, "a1", "b2", "a3", "a4", "b5")
	script(t, c, "g/a/ya X")
	checkReg(t, c, 'x', "a1|a3|a4")
	script(t, c, "g/b/d")
	checkLines(t, c, "a1|a3|a4", 3) // the current line is where the last one was, or the last one that there is
	checkReg(t, c, '1', "b5")
	checkReg(t, c, '2', "b2")
	c.Regs().Set('r', api.Reg{Lines: []string{"b5"}})
	script(t, c, "g/a/pu r")
	checkLines(t, c, "a1|b5|a3|b5|a4|b5", 6)
	script(t, c, "g/a/kq")
	if m := c.View().Marks['q'-'a']; m != 5 {
		t.Error(m)
	}
	checkLines(t, c, "a1|b5|a3|b5|a4|b5", 5)
	if out := script(t, c, "g/a/+,$="); out != strings.Repeat("6\n", 3) {
		t.Errorf("%q", out)
	}
}

// P23.2, P23.4: one undo goes behind all that a global command did.
func TestGlobalUndo(t *testing.T) {
	c := buffer(t, 2, "a", "b", "ab", "c")
	for i := range 4 {
		c.Mark('a'+byte(i), i+1)
	}
	script(t, c, "g/a/s//xx/", "u")
	checkLines(t, c, "a|b|ab|c", 2)
	checkMarks(t, c, 1, 2, 3, 4)
	script(t, c, "u")
	checkLines(t, c, "xx|b|xxb|c", 3)
	checkMarks(t, c, 0, 2, 0, 4)
	script(t, c, "g/./m0", "v/x/d", "u")
	checkLines(t, c, "c|xxb|b|xx", 1)
}

// R4: text stays what it was, and is not kept; what is told of a change is nobody else's.
func TestListsAreNotShared(t *testing.T) {
	for _, name := range []string{"2a", "2i", "2c"} {
		c := buffer(t, 2, "a", "b", "c")
		text := append(make([]string, 0, 9), "x", "y")
		_, l, e := Run(c, read(t, name), text)
		if e != api.OK || !slices.Equal(text, []string{"x", "y"}) || text[:3][2] != "" {
			t.Error(name, e, text[:3])
		}
		was := c.View().Lines
		text[0] = "spoilt"
		for i := range l {
			if len(l[i].Ins) > 0 {
				l[i].Ins[0] = "spoilt"
			}
		}
		if now := c.View().Lines; !slices.Equal(now, was) {
			t.Error(name, now)
		}
		script(t, c, "u", "u")
		if now := c.View().Lines; !slices.Equal(now, was) {
			t.Error(name, now)
		}
	}
	c := buffer(t, 2, "a", "b", "c")
	_, l, _ := Run(c, read(t, "1,2m$"), nil)
	l[1].Ins[0] = "spoilt"
	_, l, _ = Run(c, read(t, "t0"), nil)
	l[0].Ins[0] = "spoilt"
	checkLines(t, c, "b|c|a|b", 1)
	script(t, c, "2ya x")
	_, l, _ = Run(c, read(t, "pu x"), nil)
	l[0].Ins[0] = "spoilt"
	checkReg(t, c, 'x', "c")
	x := read(t, "1,2d")
	again := read(t, "1,2d")
	Run(c, x, nil)
	if !slices.Equal(x.Range.List, again.Range.List) || !slices.Equal(x.Range.Semi, again.Range.Semi) {
		t.Error(x)
	}
}

// P23.4: whether a buffer was changed, and what an undo brings back, stay with an error, too.
func TestErrorsLeaveTheUndo(t *testing.T) {
	c := buffer(t, 3, "a", "b", "c")
	script(t, c, "1d")
	c.Clean()
	for _, line := range []string{"9p", "s/q/x/", "g/./m9", "1,2m1", "%s/./" + strings.Repeat("x", 1001) + "/", "pu q"} {
		if _, _, e := do(t, c, read(t, line), nil); e == api.OK || c.Dirty() {
			t.Error(line, e)
		}
	}
	script(t, c, "1p", "=", "1,1j", "2m2")
	if c.Dirty() {
		t.Error("dirty")
	}
	script(t, c, "u")
	checkLines(t, c, "a|b|c", 3)
}

// P23.1: as many lines as a buffer may have, and one more.
func TestLimits(t *testing.T) {
	var l []string
	for i := range api.MaxLines {
		l = append(l, strconv.Itoa(i+1))
	}
	full := func() []string { return slices.Clone(l) }
	c := buffer(t, 1, full()...)
	for line, want := range map[string]api.Errno{"1a": api.ErrLong, "1i": api.ErrLong, "1t0": api.ErrLong, "1t$": api.ErrLong, `1s/1/\n/`: api.ErrLong, "%t0": api.ErrLong, "g/^1$/t0": api.ErrLong, "g/^1$/s/1/1\\n/": api.ErrLong, "2pu a": api.ErrReg} {
		if _, _, e := do(t, c, read(t, line), []string{"x"}); e != want || c.N() != api.MaxLines {
			t.Errorf("%s: %v", line, e)
		}
	}
	script(t, c, "1m$", "1,1000m$", "1001,$m0")
	if c.N() != api.MaxLines || c.Line(1) != "2" || c.Line(1001) != "1002" || c.Line(api.MaxLines) != "1" || c.Cur() != 1000 {
		t.Error(c.Line(1), c.Cur())
	}
	if _, _, e := do(t, c, read(t, "2c"), []string{"x", "y"}); e != api.ErrLong {
		t.Error(e)
	}
	if _, _, e := do(t, c, read(t, "2,3c"), []string{"x", "y"}); e != api.OK {
		t.Error(e)
	}
	script(t, c, "%d")
	if x, e := c.Regs().Get('1'); len(x.Lines) != api.MaxLines || e != api.OK {
		t.Error(len(x.Lines), e)
	}
	script(t, c, "pu")
	if c.N() != api.MaxLines || c.Cur() != api.MaxLines {
		t.Error(c.N(), c.Cur())
	}
}

// R1: great inputs end.
func TestGreatInputs(t *testing.T) {
	var l []string
	for i := range api.MaxLines {
		l = append(l, "line "+strconv.Itoa(i))
	}
	c := buffer(t, 1, l...)
	script(t, c, "g/./m0")
	for i := range l {
		if line := c.Line(api.MaxLines - i); line != l[i] {
			t.Fatal(i, line)
		}
	}
	script(t, c, "g/./s/l/L/", "g/7$/.,.+1j", "v/7/d", "g/./s/ /\\n/g", "g/^L/m$", "%>", "g/./<", "g/ine/ya X")
	if c.N() == 0 || c.N()%2 != 0 {
		t.Error(c.N())
	}
	if _, _, e := Run(c, read(t, "g/./g"), nil); e != api.ErrPattern {
		t.Error(e)
	}
	c = buffer(t, 1, l...)
	if _, _, e := do(t, c, read(t, "g/./1,$-1m$"), nil); e != api.OK {
		t.Error(e)
	}
	c = buffer(t, 1, l[:200]...)
	script(t, c, "g/[02468]$/%s/[13579]$/&/") // each of these lines stays where it is, while each other one is replaced each time
	if c.N() != 200 || c.Cur() != 200 {
		t.Error(c.N(), c.Cur())
	}
}

// R1: registers that somebody made none from outside are told as such, and nothing else comes of it.
func TestRegistersThatAreNone(t *testing.T) {
	for _, line := range []string{"1d", "1c", "1ya", "pu", "g/a/d", "g/./ya x"} {
		c := buffer(t, 2, "a", "b")
		*c.Regs() = regs.Regs{}
		if out, l, e := Run(c, read(t, line), []string{"x"}); out != "" || l != nil || e != api.ErrNil {
			t.Error(line, out, l, e)
		}
		checkLines(t, c, "a|b", 2)
		script(t, c, "1m$", "s/a/x/")
		checkLines(t, c, "b|x", 2)
	}
}

// R2: the same in the same buffer comes to the same.
func TestTwice(t *testing.T) {
	for _, line := range []string{"%d", "g/a/m0", "v/a/s/./&&/g", "%>", "1,2m$", "2,3j", "%l", "9p", "g/a/w"} {
		c, o := buffer(t, 2, "a", "ba", "c"), buffer(t, 2, "a", "ba", "c")
		out, l, e := Run(c, read(t, line), nil)
		out2, l2, e2 := Run(o, read(t, line), nil)
		same := func(a, b api.Splice) bool { return a.At == b.At && a.Del == b.Del && slices.Equal(a.Ins, b.Ins) }
		if out != out2 || e != e2 || !slices.EqualFunc(l, l2, same) || !standOf(c).same(standOf(o)) {
			t.Error(line)
		}
	}
}
