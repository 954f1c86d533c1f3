package runs

import (
	"fmt"
	"math"
	"slices"
	"strconv"
	"strings"
	"testing"

	"inkhorn/addr"
	"inkhorn/api"
)

// address is the one that a text says.
func address(t *testing.T, s string) api.Address {
	t.Helper()
	a, next, e := addr.One(s)
	if e != api.OK || next != len(s) {
		t.Fatal(s, next, e)
	}
	return a
}

// P23.1: m.
func TestMove(t *testing.T) {
	check(t,
		act{"a|b|c|d|e", 1, "2,3m$", "", "", "a|d|e|b|c", 5},
		act{"a|b|c|d|e", 1, "2,3m4", "", "", "a|d|b|c|e", 4},
		act{"a|b|c|d|e", 1, "4,5m0", "", "", "d|e|a|b|c", 2},
		act{"a|b|c|d|e", 1, "4,5m1", "", "", "a|d|e|b|c", 3},
		act{"a|b|c|d|e", 1, "4,5m2", "", "", "a|b|d|e|c", 4},
		act{"a|b|c|d|e", 1, "4,5m3", "", "", "a|b|c|d|e", 5}, // there they stand
		act{"a|b|c|d|e", 1, "4,5m5", "", "", "a|b|c|d|e", 5},
		act{"a|b|c|d|e", 1, "1,2m0", "", "", "a|b|c|d|e", 2},
		act{"a|b|c|d|e", 5, "%m$", "", "", "a|b|c|d|e", 5},
		act{"a|b|c|d|e", 5, "%m0p", "", "e\n", "a|b|c|d|e", 5},
		act{"a|b|c|d|e", 4, "1,2m", "", "", "c|d|a|b|e", 4}, // a dot
		act{"a|b|c|d|e", 3, "1m.", "", "", "b|c|a|d|e", 3},
		act{"a|b|c|d|e", 3, "1m.+", "", "", "b|c|d|a|e", 4},
		act{"a|b|c|d|e", 3, "m", "", "", "a|b|c|d|e", 3},
		act{"a|b|c|d|e", 3, "m-1p", "", "c\n", "a|b|c|d|e", 3},
		act{"a|b|c|d|e", 3, "mp", "", "c\n", "a|b|c|d|e", 3},
		act{"a|b|c|d|e", 3, "1,2m'dl", "", "b$\n", "c|d|a|b|e", 4},
		act{"a|b|c|d|e", 3, "1,2m/e/", "", "", "c|d|e|a|b", 5},
		act{"a|b|c|d|e", 3, "/e/m?a?n", "", "2\te\n", "a|e|b|c|d", 2},
		act{"a|b|c|d|e", 3, "4;/e/m0", "", "", "d|e|a|b|c", 2},
		act{"a|b|c|d|e", 3, "4;5m.", "", "", "a|b|c|d|e", 5}, // the buffer's current line, which is the one ahead of them
	)
	for _, line := range []string{"2,4m2", "2,4m3", "%m1", "%m4", "1,2m/a/", "1,2m'a", "2,3m"} {
		checkError(t, "a|b|c|d|e", 2, line, api.ErrDest)
	}
	for line, want := range map[string]api.Errno{"4,5m'd": api.ErrMark, "2m6": api.ErrAddress, "2m.-3": api.ErrAddress, "2m/q/": api.ErrSought, "2m'b": api.ErrMark, "2m//": api.ErrNoRE, `2m/\(/`: api.ErrPattern, "6m9": api.ErrAddress, "6m/q/": api.ErrAddress} {
		checkError(t, "a|b|c|d|e", 2, line, want)
	}
}

// P23.1: a destination that is none, and one that is not there but for what is added to it.
func TestDestinations(t *testing.T) {
	for _, name := range []byte("mt") {
		for _, kind := range []int{-1, 7, math.MaxInt, math.MinInt} {
			c := buffer(t, 2, "a", "b", "c")
			if _, _, e := do(t, c, api.Cmd{Name: name, Dest: api.Address{Kind: kind}}, nil); e != api.ErrAddress {
				t.Errorf("%c %d: %v", name, kind, e)
			}
		}
	}
	c := buffer(t, 2, "a", "b", "c")
	one := api.Range{List: []api.Address{address(t, "1")}}
	_, _, e := do(t, c, api.Cmd{Name: 'm', Range: one, Dest: api.Address{Kind: api.AdNone, N: 3, Re: "c", Add: 1}}, nil)
	if e != api.OK {
		t.Error(e)
	}
	checkLines(t, c, "b|a|c", 2)
}

// P23.1: t.
func TestTransfer(t *testing.T) {
	check(t,
		act{"a|b|c|d|e", 1, "2,3t$", "", "", "a|b|c|d|e|b|c", 7},
		act{"a|b|c|d|e", 1, "2,3t0", "", "", "b|c|a|b|c|d|e", 2},
		act{"a|b|c|d|e", 1, "2,3t1", "", "", "a|b|c|b|c|d|e", 3},
		act{"a|b|c|d|e", 1, "2,3t2", "", "", "a|b|b|c|c|d|e", 4}, // amid them, too
		act{"a|b|c|d|e", 1, "2,3t3", "", "", "a|b|c|b|c|d|e", 5},
		act{"a|b|c|d|e", 1, "%t2", "", "", "a|b|a|b|c|d|e|c|d|e", 7},
		act{"a|b|c|d|e", 4, "1,2t", "", "", "a|b|c|d|a|b|e", 6},
		act{"a|b|c|d|e", 4, "tn", "", "5\td\n", "a|b|c|d|d|e", 5},
		act{"a|b|c|d|e", 3, "1t/e/p", "", "a\n", "a|b|c|d|e|a", 6},
		act{"a|b|c|d|e", 3, "'at'b", "", "", "a|b|a|c|d|e", 3},
	)
	for line, want := range map[string]api.Errno{"2t6": api.ErrAddress, "2t/q/": api.ErrSought, "2t'b": api.ErrMark, "2t//": api.ErrNoRE, "0t2": api.ErrAddress} {
		checkError(t, "a|b|c|d|e", 2, line, want)
	}
}

// P23.1: the pattern that was used last is the buffer's, behind each range, behind a destination, an s, a g; with an error, too, if it was found.
func TestLastPattern(t *testing.T) {
	for line, want := range map[string]string{
		"p": "old", "/b/p": "b", "?a?p": "a", "/b/,/c/p": "c", "1m/c/": "c", "/b/t/c/": "c", "//p": "old", "1,2p": "old",
		"s/b/x/": "b", "4s//x/": "old", "/c/s/c/x/": "c", "/c/s//x/": "c", "g/a/p": "a", "g//p": "old", "g/a/s//x/": "a", "g/a/s/a/x/": "a", "g/a/s/q/x/": "q", "v/a/?c?p": "c", "1=": "old", "/b/=": "b",
	} {
		c := buffer(t, 2, "a", "b", "c", "old")
		c.Last("old")
		if _, _, e := do(t, c, read(t, line), nil); e != api.OK || c.View().Last != want {
			t.Errorf("%s: %v, %s, not %s", line, e, c.View().Last, want)
		}
	}
	for line, want := range map[string]string{
		"/c/m/q/": "c", "/b/,/c/m2": "c", "s/q/x/": "q", "/q/p": "old", "4,/a/p": "old", "g/q/p": "q", "g/b/w": "old", "/c/g/b/w": "c", "g/a/+9p": "a", "v/a/s/b/x/": "b", "'x,/a/p": "old",
	} {
		c := buffer(t, 2, "a", "b", "c", "old")
		c.Last("old")
		_, _, e := do(t, c, read(t, line), nil)
		if e == api.OK != (line == "v/a/s/b/x/") || c.View().Last != want {
			t.Errorf("%s: %v, %s, not %s", line, e, c.View().Last, want)
		}
	}
	c := buffer(t, 2, "a", "b", "c")
	c.Last("a")
	if _, _, e := do(t, c, api.Cmd{Name: 's', Re: "b", Repl: `\1`, Nth: 1}, nil); e != api.ErrRepl || c.View().Last != "b" {
		t.Error(e, c.View().Last)
	}
	if _, _, e := do(t, c, api.Cmd{Name: 's', Re: `c\(`, Repl: "x", Nth: 1}, nil); e != api.ErrPattern || c.View().Last != "b" {
		t.Error(e, c.View().Last)
	}
}

// P23.1: s.
func TestSubstitute(t *testing.T) {
	check(t,
		act{"aa|ba|cc|aa", 1, "s/a/x/", "", "", "xa|ba|cc|aa", 1},
		act{"aa|ba|cc|aa", 1, "s/a/x/g", "", "", "xx|ba|cc|aa", 1},
		act{"aa|ba|cc|aa", 1, "s/a/x/2", "", "", "ax|ba|cc|aa", 1},
		act{"aa|ba|cc|aa", 1, "%s/a/x/2", "", "", "ax|ba|cc|ax", 4},
		act{"aa|ba|cc|aa", 1, "1,3s/a/x/", "", "", "xa|bx|cc|aa", 2}, // the last one that was replaced, not the last one of all
		act{"aa|ba|cc|aa", 4, "2,3s/a/x/", "", "", "aa|bx|cc|aa", 2},
		act{"aa|ba|cc|aa", 1, "%s/a/&/g", "", "", "aa|ba|cc|aa", 4}, // by itself
		act{"aa|ba|cc|aa", 1, "1,2s/a/x", "", "bx\n", "xa|bx|cc|aa", 2},
		act{"aa|ba|cc|aa", 1, "1,2s/a/x/n", "", "2\tbx\n", "xa|bx|cc|aa", 2},
		act{"aa|ba|cc|aa", 3, `1,2s/\(a\)\(a*\)/\2-\1/l`, "", "b-a$\n", "a-a|b-a|cc|aa", 2},
		act{"aa|ba|cc|aa", 1, `1,2s/a/\n/g`, "", "", "|||b||cc|aa", 5},
		act{"aa|ba|cc|aa", 1, `%s/a/<\n>/p`, "", ">a\n", "<|>a|b<|>|cc|<|>a", 7},
		act{"aa|ba|cc|aa", 1, `1s/a/\n\n/2p`, "", "\n", "a|||ba|cc|aa", 3},
		act{"aa|ba|cc|aa", 1, "%s/.*//", "", "", "|||", 4},
		act{"aa|ba|cc|aa", 1, "/c/s//x/", "", "", "aa|ba|xc|aa", 3},
		act{"a.b|a/b", 1, `%s/\./\//`, "", "", "a/b|a/b", 1},
		act{"a.b|a/b", 1, `%s;[./];\;;`, "", "", "a;b|a;b", 2},
	)
	for line, want := range map[string]api.Errno{"s/q/x/": api.ErrMatch, "%s/q/x/": api.ErrMatch, "s/a/x/3": api.ErrMatch, "3s/a/x/": api.ErrMatch, "s//x/": api.ErrNoRE, "9s//x/": api.ErrAddress} {
		checkError(t, "aa|ba|cc", 1, line, want)
	}
}

// P23.1: what of an s may be wrong, in the order in which it is told.
func TestSubstituteErrors(t *testing.T) {
	for _, a := range []struct {
		x    api.Cmd
		last string
		want api.Errno
	}{
		{api.Cmd{Re: "", Repl: `\`, Nth: 0}, "", api.ErrNoRE},
		{api.Cmd{Re: "", Repl: `\`, Nth: 0}, `\(`, api.ErrPattern},
		{api.Cmd{Re: `\(`, Repl: `\`, Nth: 0}, "a", api.ErrPattern},
		{api.Cmd{Re: "a", Repl: `\`, Nth: 0}, "", api.ErrRepl},
		{api.Cmd{Re: "a", Repl: `\1`, Nth: 0}, "", api.ErrRepl},
		{api.Cmd{Re: `\(a\)`, Repl: `\2`, Nth: 0}, "", api.ErrRepl},
		{api.Cmd{Re: "", Repl: `\2`, Nth: 0}, `\(a\)`, api.ErrRepl},
		{api.Cmd{Re: "", Repl: `\1`, Nth: 0}, `\(a\)`, api.ErrArg},
		{api.Cmd{Re: "a", Repl: "x", Nth: 0}, "", api.ErrArg},
		{api.Cmd{Re: "q", Repl: "x", Nth: math.MinInt, All: true}, "", api.ErrArg},
		{api.Cmd{Re: "a", Repl: "x", Nth: math.MaxInt, All: true}, "", api.ErrMatch},
		{api.Cmd{Re: "a", Repl: strings.Repeat("x", api.MaxBytes+1), Nth: 1}, "", api.ErrLong},
		{api.Cmd{Re: "a", Repl: strings.Repeat("\n", api.MaxLines), Nth: 1}, "", api.ErrLong},
		{api.Cmd{Re: "", Repl: `\1`, Nth: 1}, `\(a\)`, api.OK},
		{api.Cmd{Re: "a", Repl: "x", Nth: 1}, `\(`, api.OK},
	} {
		c := buffer(t, 1, "a", "b")
		c.Last(a.last)
		a.x.Name = 's'
		if _, _, e := do(t, c, a.x, nil); e != a.want {
			t.Errorf("%+v: %v", a, e)
		}
	}
}

// P23.1: an error in a later line leaves the lines ahead of it as they were, too.
func TestSubstituteFailsLate(t *testing.T) {
	half := strings.Repeat("a", api.MaxBytes/2+1)
	c := buffer(t, 1, "a", "a", half)
	if _, _, e := do(t, c, read(t, "%s/a/aa/g"), nil); e != api.ErrLong {
		t.Error(e)
	}
	checkLines(t, c, "a|a|"+half, 1)
	hungry := strings.Repeat("a", 40)
	c = buffer(t, 1, "ab", "a", hungry)
	for _, line := range []string{`%s/\(a*\)*\1b/x/`, `g/\(a*\)*\1b/d`, `v/\(a*\)*\1b/d`, `g/a/s/\(a*\)*\1b/x/`, `/\(a*\)*\1c/p`, `1m/\(a*\)*\1c/`} {
		if _, _, e := do(t, c, read(t, line), nil); e != api.ErrFuel {
			t.Errorf("%s: %v", line, e)
		}
		checkLines(t, c, "ab|a|"+hungry, 1)
	}
}

// P23.1: > and <.
func TestShiftLines(t *testing.T) {
	check(t,
		act{"a||\tc|  d", 1, "%>", "", "", "\ta||\t\tc|\t  d", 4},
		act{"a||\tc|  d", 1, "%<", "", "", "a||c|d", 4},
		act{"a||\tc|  d", 1, "1,2>", "", "", "\ta||\tc|  d", 2},
		act{"a||\tc|  d", 1, "2>", "", "", "a||\tc|  d", 2}, // nothing to shift
		act{"a||\tc|  d", 4, "1,2<p", "", "\n", "a||\tc|  d", 2},
		act{"a||\tc|  d", 1, "3>l", "", "\\t\\tc$\n", "a||\t\tc|  d", 3},
	)
	for line, want := range map[string][]int{"1,3>": {0, 0, 0, 4}, "1,2<": {1, 2, 3, 4}, "2>": {1, 2, 3, 4}, "2,4<": {1, 0, 0, 0}} {
		c := buffer(t, 1, "a", "", "\tc", "  d")
		for i := range 4 {
			c.Mark('a'+byte(i), i+1)
		}
		script(t, c, line)
		checkMarks(t, c, want...) // lines that are shifted are others, if one of them is changed
	}
	longest := strings.Repeat("a", api.MaxBytes)
	checkError(t, "a|"+longest+"|b", 1, "%>", api.ErrLong)
	check(t, act{"a|" + longest[1:] + "|b", 1, "%>", "", "", "\ta|\t" + longest[1:] + "|\tb", 3})
}

// P23.1: k.
func TestMark(t *testing.T) {
	c := buffer(t, 2, "a", "b", "c")
	script(t, c, "ka", "1,3kb", "1kz", "kc")
	checkMarks(t, c, 2, 3, 2)
	checkLines(t, c, "a|b|c", 2)
	if out := script(t, c, "'zkap"); out != "b\n" || c.View().Marks[25] != 1 { // the current line is told, not the marked one
		t.Errorf("%q", out)
	}
	checkMarks(t, c, 1, 3, 2)
	if c.Dirty() {
		t.Error("dirty")
	}
	for _, letter := range []byte{0, 'A', '`', '{', '1', 255} {
		if _, _, e := do(t, c, api.Cmd{Name: 'k', Letter: letter}, nil); e != api.ErrMark {
			t.Errorf("%q: %v", letter, e)
		}
	}
	checkError(t, "a", 1, "2ka", api.ErrAddress)
	checkError(t, "a", 1, "0ka", api.ErrAddress)
}

// P23.1, P23.4: marks go with their lines.
func TestMarksGoAlong(t *testing.T) {
	for line, want := range map[string][]int{
		"2,3d": {1, 0, 0, 2, 3}, "2a": {1, 2, 4, 5, 6}, "2i": {1, 3, 4, 5, 6}, "2,3c": {1, 0, 0, 3, 4}, "2,3j": {1, 0, 0, 3, 4}, "3j": {1, 2, 3, 4, 5},
		"2,3m$": {1, 0, 0, 2, 3}, "4,5m1": {1, 4, 5, 0, 0}, "2m2": {1, 2, 3, 4, 5}, "2,3t4": {1, 2, 3, 4, 7}, "2,3t0": {3, 4, 5, 6, 7}, "%s/[bd]/x/": {1, 0, 3, 0, 5}, `2,3s/./\n/`: {1, 0, 0, 6, 7},
		"3>": {1, 2, 0, 4, 5}, "1pu": {1, 3, 4, 5, 6}, "g/[bd]/d": {1, 0, 2, 0, 3}, "g/./m0": {5, 0, 0, 0, 0}, "g/./kc": {1, 2, 5, 4, 5},
	} {
		c := buffer(t, 1, "a", "b", "c", "d", "e")
		for i := range 5 {
			c.Mark('a'+byte(i), i+1)
		}
		c.Regs().Set(0, api.Reg{Lines: []string{"r"}})
		if _, _, e := do(t, c, read(t, line), []string{"x"}); e != api.OK {
			t.Errorf("%s: %v", line, e)
		}
		if m := c.View().Marks; !slices.Equal(m[:5], want) {
			t.Errorf("%s: %v, not %v", line, m[:5], want)
		}
	}
}

// P23.1: Y.
func TestYank(t *testing.T) {
	c := buffer(t, 2, "a", "b", "c")
	script(t, c, "1,2ya x", "3ya X", "2ya")
	checkReg(t, c, 'x', "a|b|c")
	checkReg(t, c, 0, "b")
	checkReg(t, c, '1', "")
	checkLines(t, c, "a|b|c", 2)
	if out := script(t, c, "1ya yn"); out != "2\tb\n" || c.Dirty() {
		t.Errorf("%q", out)
	}
	for _, letter := range []byte{'1', '9', '0', '@', '[', '`', '{', 255} {
		if _, _, e := do(t, c, api.Cmd{Name: 'Y', Letter: letter}, nil); e != api.ErrReg {
			t.Errorf("%q: %v", letter, e)
		}
	}
	checkError(t, "a|b", 1, "3ya", api.ErrAddress)
	c = buffer(t, 1, slices.Repeat([]string{"a"}, api.MaxLines)...)
	script(t, c, "%ya x")
	if _, _, e := do(t, c, read(t, "ya X"), nil); e != api.ErrLong {
		t.Error(e)
	}
	if _, _, e := do(t, c, read(t, "t."), nil); e != api.ErrLong {
		t.Error(e)
	}
}

// P23.1: P.
func TestPut(t *testing.T) {
	c := buffer(t, 2, "a", "b", "c")
	checkError(t, "a|b|c", 2, "pu x", api.ErrReg)
	checkError(t, "a|b|c", 2, "4pu x", api.ErrAddress)
	c.Regs().Set('x', api.Reg{Lines: []string{"x", "y"}, Whole: true})
	c.Regs().Set('s', api.Reg{Lines: []string{"s", "t"}}) // a stretch of bytes: its lines stand there likewise
	script(t, c, "1,2pu x")
	checkLines(t, c, "a|b|x|y|c", 4)
	script(t, c, "0pu")
	checkLines(t, c, "s|t|a|b|x|y|c", 2)
	if out := script(t, c, "$pu Xn"); out != "9\ty\n" {
		t.Errorf("%q", out)
	}
	script(t, c, "1,2d", "%d")
	for _, letter := range []byte("12") {
		if _, _, e := do(t, c, api.Cmd{Name: 'P', Letter: letter}, nil); e != api.OK {
			t.Errorf("%q: %v", letter, e)
		}
	}
	checkLines(t, c, "a|b|x|y|c|x|y|s|t", 9)
	for _, letter := range []byte{'3', '0', 'q', 'Q', 255} {
		if _, _, e := do(t, c, api.Cmd{Name: 'P', Letter: letter}, nil); e != api.ErrReg {
			t.Errorf("%q: %v", letter, e)
		}
	}
	c = buffer(t, 0)
	c.Regs().Set('x', api.Reg{Lines: slices.Repeat([]string{"a"}, api.MaxLines)})
	script(t, c, "pux")
	if _, _, e := do(t, c, read(t, "0pux"), nil); e != api.ErrLong || c.N() != api.MaxLines || c.Cur() != api.MaxLines {
		t.Error(e, c.N(), c.Cur())
	}
}

// P23.1: p, l, n, 0 and =.
func TestTell(t *testing.T) {
	check(t,
		act{"a||\tc|d\\$", 1, "2,4p", "", "\n\tc\nd\\$\n", "a||\tc|d\\$", 4},
		act{"a||\tc|d\\$", 1, "2,4n", "", "2\t\n3\t\tc\n4\td\\$\n", "a||\tc|d\\$", 4},
		act{"a||\tc|d\\$", 1, "2,4l", "", "$\n\\tc$\nd\\\\\\$$\n", "a||\tc|d\\$", 4},
		act{"a||\tc|d\\$", 4, "1,2p", "", "a\n\n", "a||\tc|d\\$", 2},
		act{"a||\tc|d\\$", 1, "3,4", "", "d\\$\n", "a||\tc|d\\$", 4},
		act{"a||\tc|d\\$", 1, "", "", "\n", "a||\tc|d\\$", 2},
		act{"a||\tc|d\\$", 1, "2=", "", "2\n", "a||\tc|d\\$", 1},
		act{"a||\tc|d\\$", 1, "/c/=n", "", "3\n1\ta\n", "a||\tc|d\\$", 1},
		act{"a||\tc|d\\$", 1, "3pl", "", "\tc\n\\tc$\n", "a||\tc|d\\$", 3}, // twice, each by its own
		act{"a||\tc|d\\$", 1, "1,3np", "", "1\ta\n2\t\n3\t\tc\n\tc\n", "a||\tc|d\\$", 3},
	)
	c := buffer(t, 1, "a\tb", "c")
	for by := range 256 {
		want := "a\tb\n"
		switch by {
		case 0:
			want = ""
		case 'n':
			want = "1\ta\tb\n"
		case 'l':
			want = "a\\tb$\n"
		}
		if out, _, e := do(t, c, api.Cmd{Name: 'k', Letter: 'a', Print: byte(by)}, nil); out != want || e != api.OK {
			t.Errorf("%d: %q %v", by, out, e)
		}
	}
}

// P23.1: z.
func TestScroll(t *testing.T) {
	var l []string
	for i := range 60 {
		l = append(l, strconv.Itoa(i+1))
	}
	want := func(from, to int) string { return strings.Join(l[from-1:to], "\n") + "\n" }
	for _, a := range []struct {
		cur    int
		line   string
		digits string
		from   int
		to     int
	}{
		{10, "z", "", 11, 32}, {10, "z3", "", 11, 13}, {10, "z1", "", 11, 11}, {10, "z0", "", 11, 32}, {10, "z0003", "", 11, 13}, {10, "z9999", "", 11, 60}, {10, "5z", "", 5, 26}, {10, "5,7z2", "", 7, 8}, {10, "$z", "", 60, 60}, {50, "z", "", 51, 60}, {59, "z5", "", 60, 60}, {0, "z2", "", 1, 2},
		{10, "z", "999999999", 11, 60}, {10, "z", "000000004", 11, 14}, {10, "z", "0000000004", 11, 32}, {10, "z", "9999999999999999999999", 11, 32}, {10, "z", "000000000", 11, 32},
		{10, "z", "-3", 11, 32}, {10, "z", "+3", 11, 32}, {10, "z", " 3", 11, 32}, {10, "z", "3 ", 11, 32}, {10, "z", "0x3", 11, 32}, {10, "z", "1_0", 11, 32}, {10, "z", "x", 11, 32}, {10, "z", "\xd9\xa3", 11, 32},
	} {
		c := buffer(t, a.cur, l...)
		x := read(t, a.line)
		if a.digits != "" {
			x.Name2 = a.digits
		}
		if out, _, e := do(t, c, x, nil); out != want(a.from, a.to) || e != api.OK || c.Cur() != a.to {
			t.Errorf("%+v: %q %v %d", a, out, e, c.Cur())
		}
	}
	checkError(t, "a|b", 2, "z", api.ErrAddress)
	checkError(t, "a|b", 2, "0z", api.ErrAddress)
}

// P23.3: a line as it is told.
func TestShow(t *testing.T) {
	for _, a := range []struct {
		by   byte
		n    int
		line string
		want string
	}{
		{'p', 3, "a\t\\$\x00b", "a\t\\$\x00b\n"}, {'p', 3, "", "\n"}, {0, 3, "a$", "a$\n"}, {'q', 3, "a$", "a$\n"}, {'L', 3, "a\t", "a\t\n"}, {'N', 3, "a", "a\n"}, {255, 3, "a", "a\n"},
		{'n', 3, "a\t$", "3\ta\t$\n"}, {'n', 2000, "", "2000\t\n"}, {'n', 0, "a", "0\ta\n"}, {'n', -7, "a", "-7\ta\n"}, {'n', math.MinInt, "a", strconv.Itoa(math.MinInt) + "\ta\n"},
		{'l', 3, "", "$\n"}, {'l', 3, "a b~", "a b~$\n"}, {'l', 3, "$\\\t", "\\$\\\\\\t$\n"}, {'l', 3, "\x00\x07\x08\x0a\x1f\x7f\x80\xff", "\\000\\007\\010\\012\\037\\177\\200\\377$\n"}, {'l', 3, "\xc3\xa9", "\\303\\251$\n"},
	} {
		if s := Show(a.by, a.n, a.line); s != a.want {
			t.Errorf("%+v: %q", a, s)
		}
	}
	for b := range 256 {
		want := string([]byte{byte(b)})
		switch {
		case b == '\t':
			want = `\t`
		case b == '$' || b == '\\':
			want = `\` + want
		case b < 32 || b > 126:
			want = fmt.Sprintf(`\%03o`, b)
		}
		if s := Show('l', 1, "x"+string([]byte{byte(b)})+"1"); s != "x"+want+"1$\n" {
			t.Errorf("%d: %q", b, s)
		}
	}
}

// P23.3: a line shifted.
func TestShift(t *testing.T) {
	for _, a := range []struct{ line, right, left string }{
		{"", "", ""}, {"a", "\ta", "a"}, {"\ta", "\t\ta", "a"}, {"\t\ta", "\t\t\ta", "\ta"}, {"\t", "\t\t", ""}, {" ", "\t ", ""}, {" a ", "\t a ", "a "},
		{strings.Repeat(" ", 7) + "a", "\t" + strings.Repeat(" ", 7) + "a", "a"}, {strings.Repeat(" ", 8) + "a", "\t" + strings.Repeat(" ", 8) + "a", "a"}, {strings.Repeat(" ", 9) + "a", "\t" + strings.Repeat(" ", 9) + "a", " a"}, {strings.Repeat(" ", 20), "\t" + strings.Repeat(" ", 20), strings.Repeat(" ", 12)},
		{"  \ta", "\t  \ta", "\ta"}, {"\t a", "\t\t a", " a"}, {"\va", "\t\va", "\va"}, {"\xa0a", "\t\xa0a", "\xa0a"}, {"a\t", "\ta\t", "a\t"},
	} {
		if r, l := Shift(a.line, true), Shift(a.line, false); r != a.right || l != a.left {
			t.Errorf("%q: %q, %q", a.line, r, l)
		}
		if a.line != "" && Shift(Shift(a.line, true), false) != a.line {
			t.Errorf("%q", a.line)
		}
	}
}

// P23.2: g and v.
func TestGlobal(t *testing.T) {
	check(t,
		act{"a|b|ab|c", 3, "g/a/p", "", "a\nab\n", "a|b|ab|c", 3},
		act{"a|b|ab|c", 3, "v/a/p", "", "b\nc\n", "a|b|ab|c", 4},
		act{"a|b|ab|c", 3, "2,3g/a/n", "", "3\tab\n", "a|b|ab|c", 3},
		act{"a|b|ab|c", 3, "2,3v/a/n", "", "2\tb\n", "a|b|ab|c", 2},
		act{"a|b|ab|c", 3, "1g/a/n", "", "1\ta\n", "a|b|ab|c", 1},
		act{"a|b|ab|c", 3, "g/a/", "", "a\nab\n", "a|b|ab|c", 3},
		act{"a|b|ab|c", 3, "g/a/d", "", "", "b|c", 2},
		act{"a|b|ab|c", 1, "v/a/d", "", "", "a|ab", 2},
		act{"a|b|ab|c", 1, "g/./d", "", "", "", 0},
		act{"a|b|ab|c", 1, "g/a/dp", "", "b\nc\n", "b|c", 2},
		act{"a|b|ab|c", 4, "g/b/m0", "", "", "ab|b|a|c", 1},
		act{"a|b|ab|c", 4, "g/b/m$p", "", "b\nab\n", "a|c|b|ab", 4},
		act{"a|b|ab|c", 4, "g/b/t.", "", "", "a|b|b|ab|ab|c", 5}, // what is new is not gone through
		act{"a|b|ab|c", 4, "g/b/t0", "", "", "ab|b|a|b|ab|c", 1},
		act{"a|b|ab|c", 4, "g/b/-d", "", "", "ab|c", 1},
		act{"a|b|ab|c", 4, "g/./+d", "", "", "a|ab", 2}, // those that are gone, or were gone through, do nothing
		act{"a|b|ab|c", 4, "g/./.,+j", "", "", "ab|abc", 2},
		act{"a|b|ab|c", 4, "g/a/s/a/x/", "", "", "x|b|xb|c", 3},
		act{"a|b|ab|c", 4, "g/a/s//x/", "", "", "x|b|xb|c", 3},
		act{"a|b|ab|c", 4, `g/a/s/a/<\n>/p`, "", ">\n>b\n", "<|>|b|<|>b|c", 5},
		act{"a|b|ab|c", 4, "g/./s/a/x/", "", "", "x|b|xb|c", 4}, // where there is nothing to substitute, that is no error; the line is the current one
		act{"a|b|ab|c", 4, "g/./s/q/x/p", "", "", "a|b|ab|c", 4},
		act{"a|b|ab|c", 4, "g/./s/a/x/n", "", "1\tx\n3\txb\n", "x|b|xb|c", 4},
		act{"a|b|ab|c", 4, "g/a/%s/a/x/", "", "", "x|b|xb|c", 3}, // the second line is another one then
		act{"a|b|ab|c", 4, "g/./1,$>", "", "", "\ta|\tb|\tab|\tc", 4},
		act{"a|b|ab|c", 4, "g/b/>l", "", "\\tb$\n\\tab$\n", "a|\tb|\tab|c", 3},
		act{"a|b|ab|c", 4, "g/b/kx", "", "", "a|b|ab|c", 3},
		act{"a|b|ab|c", 4, "g/b/ya X", "", "", "a|b|ab|c", 3},
		act{"a|b|ab|c", 1, "g/b/=", "", "4\n4\n", "a|b|ab|c", 3},
		act{"a|b|ab|c", 1, "g/b/.=p", "", "2\nb\n3\nab\n", "a|b|ab|c", 3},
		act{"a|b|ab|c", 1, "g/b/z1", "", "ab\nc\n", "a|b|ab|c", 4},
		act{"a|b|ab|c", 1, "g/b/+", "", "ab\nc\n", "a|b|ab|c", 4},
		act{"a|b|ab|c", 1, "g/b/-,+n", "", "1\ta\n2\tb\n3\tab\n2\tb\n3\tab\n4\tc\n", "a|b|ab|c", 4},
		act{"a|b|ab|c", 1, "g/b/1p", "", "a\na\n", "a|b|ab|c", 1},
		act{"a|b|ab|c", 1, "g/b/?a?p", "", "a\na\n", "a|b|ab|c", 1},
		act{"a|b|ab|c", 1, "g/ab/'ap", "", "a\n", "a|b|ab|c", 1},
		act{"a||b", 1, "g/^$/d", "", "", "a|b", 2},
		act{"a||b", 1, "v/./d", "", "", "a|b", 2},
	)
}
