package core

import (
	"math"
	"slices"
	"strings"
	"testing"

	"inkhorn/api"
	"inkhorn/regs"
)

// made is a buffer of lines.
func made(t *testing.T, l ...string) *Core {
	t.Helper()
	c, e := New(l)
	if c == nil || e != api.OK {
		t.Fatalf("New: %v, %d", c, e)
	}
	return c
}

func checkErr(t *testing.T, name string, got, want api.Errno) {
	t.Helper()
	if got != want {
		t.Fatalf("%s: %d, not %d", name, got, want)
	}
}

// checkLines tells where a buffer has other lines.
func checkLines(t *testing.T, c *Core, want ...string) {
	t.Helper()
	if got := c.Lines(1, c.N()); !slices.Equal(got, want) {
		t.Errorf("%.200q, not %.200q", got, want)
	}
}

func checkCur(t *testing.T, c *Core, want int) {
	t.Helper()
	if got := c.Cur(); got != want {
		t.Errorf("the current line is %d, not %d", got, want)
	}
}

func checkDirty(t *testing.T, c *Core, want bool) {
	t.Helper()
	if got := c.Dirty(); got != want {
		t.Errorf("dirty: %t, not %t", got, want)
	}
}

// checkMarks tells where other marks are set than by these letters on these lines.
func checkMarks(t *testing.T, c *Core, want map[byte]int) {
	t.Helper()
	var all api.Marks
	for letter, line := range want {
		all[letter-'a'] = line
	}
	if got := c.View().Marks; got != all {
		t.Errorf("marks: %d, not %d", got, all)
	}
}

// checkReg tells where a register has other text than one stretch, or any at all, if none is wanted.
func checkReg(t *testing.T, r *regs.Regs, letter byte, want string) {
	t.Helper()
	got, e := r.Get(letter)
	if want == "" {
		checkErr(t, "Get "+string(rune(letter)), e, api.ErrReg)
		return
	}
	checkErr(t, "Get "+string(rune(letter)), e, api.OK)
	if len(got.Lines) != 1 || got.Lines[0] != want {
		t.Errorf("register %c: %q, not %q", letter, got.Lines, want)
	}
}

// checkSplices tells where splices are others than these.
func checkSplices(t *testing.T, got []api.Splice, want ...api.Splice) {
	t.Helper()
	if !slices.EqualFunc(got, want, sameSplice) {
		t.Errorf("%.200v, not %.200v", got, want)
	}
}

func sameSplice(a, b api.Splice) bool {
	return a.At == b.At && a.Del == b.Del && slices.Equal(a.Ins, b.Ins)
}

// begin begins a change.
func begin(t *testing.T, c *Core) {
	t.Helper()
	checkErr(t, "Begin", c.Begin(), api.OK)
}

// splice does splices in the change that has begun.
func splice(t *testing.T, c *Core, l ...api.Splice) {
	t.Helper()
	for _, s := range l {
		checkErr(t, "Splice", c.Splice(s), api.OK)
	}
}

// done does a whole change.
func done(t *testing.T, c *Core, l ...api.Splice) {
	t.Helper()
	begin(t, c)
	splice(t, c, l...)
	checkSplices(t, c.End(), l...)
}

// undo undoes, and holds the splice that is told against the lines ahead and behind.
func undo(t *testing.T, c *Core) {
	t.Helper()
	n := c.N()
	l, e := c.Undo()
	checkErr(t, "Undo", e, api.OK)
	checkSplices(t, l, api.Splice{Del: n, Ins: c.Lines(1, c.N())})
}

// checkNoUndo tells where Undo answers anything but an error.
func checkNoUndo(t *testing.T, c *Core, want api.Errno) {
	t.Helper()
	if l, e := c.Undo(); len(l) != 0 || e != want {
		t.Errorf("Undo: %v, %d, not %d", l, e, want)
	}
}

func set(t *testing.T, c *Core, letter byte, text string) {
	t.Helper()
	checkErr(t, "Set", c.Regs().Set(letter, api.Reg{Lines: []string{text}}), api.OK)
}

// ins is a splice that lays lines behind the first at ones.
func ins(at int, l ...string) api.Splice { return api.Splice{At: at, Ins: l} }

// del is a splice that takes n lines behind the first at ones away.
func del(at, n int) api.Splice { return api.Splice{At: at, Del: n} }

// many is so many lines.
func many(n int, line string) []string { return slices.Repeat([]string{line}, n) }

// The examples of the document.
func TestExamples(t *testing.T) {
	c := made(t, "a", "b")
	checkCur(t, c, 2)
	checkErr(t, "Splice", c.Splice(del(0, 1)), api.ErrArg)
	begin(t, c)
	splice(t, c, del(0, 1))
	checkCur(t, c, 1)
	if c.N() != 1 {
		t.Errorf("%d lines", c.N())
	}
	checkSplices(t, c.End(), del(0, 1))
	checkDirty(t, c, true)
	l, e := c.Undo()
	checkErr(t, "Undo", e, api.OK)
	checkSplices(t, l, api.Splice{At: 0, Del: 1, Ins: []string{"a", "b"}})
	checkLines(t, c, "a", "b")
	l, e = c.Undo()
	checkErr(t, "Undo", e, api.OK)
	checkSplices(t, l, api.Splice{At: 0, Del: 2, Ins: []string{"b"}})
	checkLines(t, c, "b")
	begin(t, c)
	splice(t, c, ins(1, "x"))
	c.Abort()
	checkLines(t, c, "b")
}

// P19.1
func TestNew(t *testing.T) {
	for _, l := range [][]string{nil, {}, {""}, {"a"}, {"a", "", "b"}, {"\xff\x00\r"}, many(2000, "a"), {strings.Repeat("x", 1000)}} {
		c := made(t, l...)
		checkLines(t, c, l...)
		checkCur(t, c, len(l))
		checkDirty(t, c, false)
		checkMarks(t, c, nil)
		if v := c.View(); v.Last != "" {
			t.Errorf("a pattern %q", v.Last)
		}
		for letter := range 256 {
			if _, e := c.Regs().Get(byte(letter)); e != api.ErrReg {
				t.Errorf("register %d: %d", letter, e)
			}
		}
		checkNoUndo(t, c, api.ErrUndo)
		begin(t, c)
	}
}

// P19.1: it is ErrArg, too, where lines.Check tells ErrLong.
func TestNewOfWrongLines(t *testing.T) {
	for _, l := range [][]string{{"\n"}, {"a", "b\n"}, {strings.Repeat("x", 1001)}, many(2001, ""), {"a", strings.Repeat("x", 1001), "\n"}} {
		if c, e := New(l); c != nil || e != api.ErrArg {
			t.Errorf("%.50q: %v, %d", l, c, e)
		}
	}
}

// P19.2
func TestQuestions(t *testing.T) {
	c := made(t, "a", "b", "c")
	if c.N() != 3 {
		t.Errorf("%d lines", c.N())
	}
	for i, want := range map[int]string{1: "a", 2: "b", 3: "c", 0: "", 4: "", -1: "", math.MinInt: "", math.MaxInt: ""} {
		if got := c.Line(i); got != want {
			t.Errorf("line %d: %q", i, got)
		}
	}
	for _, x := range []struct {
		from, to int
		want     []string
	}{
		{1, 3, []string{"a", "b", "c"}}, {2, 2, []string{"b"}}, {0, 1, []string{"a"}}, {3, 9, []string{"c"}}, {-5, 9, []string{"a", "b", "c"}},
		{3, 2, nil}, {4, 4, nil}, {0, 0, nil}, {-2, -1, nil},
		{math.MinInt, math.MaxInt, []string{"a", "b", "c"}}, {math.MaxInt, math.MinInt, nil}, {2, math.MaxInt, []string{"b", "c"}},
	} {
		if got := c.Lines(x.from, x.to); !slices.Equal(got, x.want) {
			t.Errorf("lines %d to %d: %q", x.from, x.to, got)
		}
	}
}

// P19.2, P19.3
func TestView(t *testing.T) {
	c := made(t, "a", "b", "c")
	checkErr(t, "Go", c.Go(2), api.OK)
	checkErr(t, "Mark", c.Mark('a', 3), api.OK)
	checkErr(t, "Mark", c.Mark('z', 1), api.OK)
	c.Last(`x\(y`)
	want := api.Marks{0: 3, 25: 1}
	if v := c.View(); !slices.Equal(v.Lines, []string{"a", "b", "c"}) || v.Cur != 2 || v.Marks != want || v.Last != `x\(y` {
		t.Errorf("%v", v)
	}
	c.Last("")
	if v := c.View(); v.Last != "" {
		t.Errorf("%v", v)
	}
	begin(t, c)
	splice(t, c, ins(1, "x"))
	want = api.Marks{0: 4, 25: 1}
	if v := c.View(); !slices.Equal(v.Lines, []string{"a", "x", "b", "c"}) || v.Cur != 3 || v.Marks != want {
		t.Errorf("while a change has begun: %v", v)
	}
}

// P19.3
func TestGo(t *testing.T) {
	for _, n := range []int{0, 1, 3} {
		c := made(t, many(n, "a")...)
		for line := range n + 1 {
			checkErr(t, "Go", c.Go(line), api.OK)
			checkCur(t, c, line)
		}
		checkErr(t, "Go", c.Go(n/2), api.OK)
		for _, line := range []int{-1, n + 1, math.MinInt, math.MaxInt} {
			checkErr(t, "Go", c.Go(line), api.ErrAddress)
			checkCur(t, c, n/2)
		}
		checkDirty(t, c, false)
		checkNoUndo(t, c, api.ErrUndo)
	}
}

// P19.3
func TestMark(t *testing.T) {
	c := made(t, "a", "b", "c")
	checkErr(t, "Mark", c.Mark('a', 1), api.OK)
	checkErr(t, "Mark", c.Mark('z', 3), api.OK)
	checkErr(t, "Mark", c.Mark('b', 3), api.OK)
	checkErr(t, "Mark", c.Mark('a', 2), api.OK)
	for _, letter := range []byte{0, 'A', 'Z', 'a' - 1, 'z' + 1, '1', 255} {
		for _, line := range []int{2, 0, 9} {
			checkErr(t, "Mark", c.Mark(letter, line), api.ErrMark)
		}
	}
	for _, line := range []int{0, -1, 4, math.MinInt, math.MaxInt} {
		checkErr(t, "Mark", c.Mark('a', line), api.ErrAddress)
	}
	checkMarks(t, c, map[byte]int{'a': 2, 'b': 3, 'z': 3})
	checkCur(t, c, 3)
	checkDirty(t, c, false)
	checkErr(t, "Mark", made(t).Mark('a', 1), api.ErrAddress)
}

// P19.3, P19.4: it is no longer clean behind an End that had splices, and behind that alone.
func TestClean(t *testing.T) {
	c := made(t, "a")
	begin(t, c)
	splice(t, c, del(0, 0))
	checkDirty(t, c, false)
	c.End()
	checkDirty(t, c, true)
	c.Clean()
	checkDirty(t, c, false)
	begin(t, c)
	c.End()
	begin(t, c)
	splice(t, c, ins(0, "x"))
	c.Abort()
	checkDirty(t, c, false)
	begin(t, c)
	splice(t, c, ins(0, "x"))
	c.Clean()
	checkDirty(t, c, false)
	c.End()
	checkDirty(t, c, true)
	begin(t, c)
	splice(t, c, ins(0, "y"))
	c.Abort()
	checkDirty(t, c, true)
	begin(t, c)
	c.Clean()
	c.Abort()
	checkDirty(t, c, false)
	undo(t, c)
	checkDirty(t, c, true)
	c.Clean()
	undo(t, c)
	checkDirty(t, c, true)
}

// Words: where the current line is behind a splice.
func TestCurBehindASplice(t *testing.T) {
	for _, x := range []struct {
		n, cur int
		s      api.Splice
		want   int
	}{
		{5, 2, ins(2, "x", "y"), 2}, {5, 3, ins(2, "x", "y"), 5}, {5, 2, del(2, 3), 2}, {5, 5, del(0, 4), 1}, {5, 4, api.Splice{At: 1, Del: 2, Ins: []string{"x"}}, 3},
		{5, 3, del(2, 1), 3}, {5, 3, del(1, 3), 2}, {5, 5, del(2, 3), 2}, {5, 5, del(4, 1), 4}, {5, 1, del(0, 5), 0},
		{5, 3, api.Splice{At: 2, Del: 1, Ins: []string{"x"}}, 3}, {5, 3, api.Splice{At: 1, Del: 3, Ins: []string{"x", "y", "z", "w"}}, 2}, {5, 5, api.Splice{At: 3, Del: 2, Ins: []string{"x"}}, 4},
		{0, 0, ins(0, "x", "y"), 1}, {0, 0, ins(0), 0}, {5, 0, ins(0, "x"), 1}, {5, 0, ins(3, "x"), 4}, {5, 0, ins(5, "x", "y"), 6}, {5, 0, ins(5), 5}, {5, 0, del(2, 3), 2}, {5, 0, del(0, 5), 0},
	} {
		c := made(t, many(x.n, "a")...)
		checkErr(t, "Go", c.Go(x.cur), api.OK)
		begin(t, c)
		splice(t, c, x.s)
		if c.Cur() != x.want {
			t.Errorf("line %d of %d, and %v: %d, not %d", x.cur, x.n, x.s, c.Cur(), x.want)
		}
		c.End()
		checkCur(t, c, x.want)
	}
}

// Words: where the marks are behind splices.
func TestMarksBehindSplices(t *testing.T) {
	c := made(t, "a", "b", "c", "d")
	for i, letter := range []byte("abcd") {
		checkErr(t, "Mark", c.Mark(letter, i+1), api.OK)
	}
	begin(t, c)
	splice(t, c, ins(1, "x", "y"))
	checkMarks(t, c, map[byte]int{'a': 1, 'b': 4, 'c': 5, 'd': 6})
	splice(t, c, del(3, 2))
	checkMarks(t, c, map[byte]int{'a': 1, 'd': 4})
	checkErr(t, "Mark", c.Mark('b', 2), api.OK)
	splice(t, c, api.Splice{At: 3, Del: 1, Ins: []string{"d"}})
	checkMarks(t, c, map[byte]int{'a': 1, 'b': 2})
	c.End()
	checkMarks(t, c, map[byte]int{'a': 1, 'b': 2})
	undo(t, c)
	checkMarks(t, c, map[byte]int{'a': 1, 'b': 2, 'c': 3, 'd': 4})
	undo(t, c)
	checkMarks(t, c, map[byte]int{'a': 1, 'b': 2})
}

// P19.4
func TestBegin(t *testing.T) {
	c := made(t, "a")
	begin(t, c)
	checkErr(t, "Begin", c.Begin(), api.ErrArg)
	splice(t, c, ins(0, "x"))
	checkErr(t, "Begin", c.Begin(), api.ErrArg)
	checkSplices(t, c.End(), ins(0, "x"))
	begin(t, c)
	c.Abort()
	begin(t, c)
	c.End()
	begin(t, c)
}

// P19.4: a Begin that is ErrArg leaves what an Abort brings back.
func TestBeginOnceMore(t *testing.T) {
	c := made(t, "a")
	begin(t, c)
	splice(t, c, ins(0, "x"))
	set(t, c, 'a', "x")
	checkErr(t, "Begin", c.Begin(), api.ErrArg)
	c.Abort()
	checkLines(t, c, "a")
	checkReg(t, c.Regs(), 'a', "")
}

// P19.4
func TestSpliceTellsErrors(t *testing.T) {
	tooLong := strings.Repeat("x", 1001)
	c := made(t, "a", "b")
	checkErr(t, "Mark", c.Mark('a', 2), api.OK)
	checkErr(t, "Splice", c.Splice(ins(0, "x")), api.ErrArg)
	checkErr(t, "Splice", c.Splice(ins(0, tooLong)), api.ErrArg)
	begin(t, c)
	splice(t, c, ins(2, "c"))
	for i, x := range []struct {
		s    api.Splice
		want api.Errno
	}{
		{del(-1, 0), api.ErrArg}, {del(0, -1), api.ErrArg}, {del(4, 0), api.ErrArg}, {del(0, 4), api.ErrArg}, {del(2, 2), api.ErrArg},
		{del(math.MaxInt, 1), api.ErrArg}, {del(1, math.MaxInt), api.ErrArg}, {del(math.MinInt, math.MinInt), api.ErrArg},
		{ins(0, "x", "\n"), api.ErrArg}, {ins(0, tooLong, "\n"), api.ErrArg}, {ins(4, tooLong), api.ErrArg},
		{ins(0, "x", tooLong), api.ErrLong}, {ins(0, many(1998, "x")...), api.ErrLong}, {ins(0, many(2001, "x")...), api.ErrLong},
		{api.Splice{At: 1, Del: 1, Ins: many(1999, "x")}, api.ErrLong},
	} {
		if e := c.Splice(x.s); e != x.want {
			t.Errorf("%d: %d, not %d", i, e, x.want)
		}
		checkLines(t, c, "a", "b", "c")
		checkCur(t, c, 2)
		checkMarks(t, c, map[byte]int{'a': 2})
	}
	most := api.Splice{At: 1, Del: 1, Ins: many(1998, "x")}
	splice(t, c, most)
	checkSplices(t, c.End(), ins(2, "c"), most)
	if c.N() != 2000 {
		t.Errorf("%d lines", c.N())
	}
	checkErr(t, "Splice", c.Splice(del(0, 1)), api.ErrArg)
	undo(t, c)
	checkLines(t, c, "a", "b")
}

// P19.4: all splices, in order; one that changes nothing, too.
func TestEnd(t *testing.T) {
	c := made(t, "a", "b")
	checkSplices(t, c.End())
	begin(t, c)
	checkSplices(t, c.End())
	checkErr(t, "Splice", c.Splice(ins(0, "x")), api.ErrArg)
	all := []api.Splice{ins(2, "c"), del(0, 1), {}, {At: 1, Del: 1, Ins: []string{"x", "y"}}}
	done(t, c, all...)
	checkLines(t, c, "b", "x", "y")
	checkSplices(t, c.End())
	checkErr(t, "Splice", c.Splice(ins(0, "x")), api.ErrArg)
	undo(t, c)
	checkLines(t, c, "a", "b")
	done(t, c, api.Splice{})
	checkLines(t, c, "a", "b")
	undo(t, c)
	checkLines(t, c, "a", "b")
}

// P19.4: a change without splices leaves what an undo brings back, whatever else was done in it.
func TestEndWithoutSplices(t *testing.T) {
	c := made(t, "a", "b")
	begin(t, c)
	checkErr(t, "Go", c.Go(0), api.OK)
	checkErr(t, "Splice", c.Splice(del(0, 9)), api.ErrArg)
	c.End()
	checkNoUndo(t, c, api.ErrUndo)
	checkDirty(t, c, false)
	done(t, c, del(0, 1))
	c.Clean()
	begin(t, c)
	checkErr(t, "Go", c.Go(1), api.OK)
	checkErr(t, "Mark", c.Mark('a', 1), api.OK)
	set(t, c, 'a', "x")
	c.End()
	checkDirty(t, c, false)
	checkCur(t, c, 1)
	checkMarks(t, c, map[byte]int{'a': 1})
	checkReg(t, c.Regs(), 'a', "x")
	undo(t, c)
	checkLines(t, c, "a", "b")
}

// P19.4: what an undo brings back is what was there at the Begin, though more was done in the change.
func TestUndoOfAllThatWasDone(t *testing.T) {
	c := made(t, "a", "b", "c")
	checkErr(t, "Mark", c.Mark('a', 2), api.OK)
	checkErr(t, "Go", c.Go(1), api.OK)
	begin(t, c)
	checkErr(t, "Go", c.Go(3), api.OK)
	checkErr(t, "Mark", c.Mark('a', 1), api.OK)
	checkErr(t, "Mark", c.Mark('b', 3), api.OK)
	c.Last("p")
	set(t, c, 'a', "x")
	splice(t, c, ins(3, "d"), del(0, 1))
	checkErr(t, "Go", c.Go(0), api.OK)
	c.End()
	checkErr(t, "Go", c.Go(3), api.OK)
	checkErr(t, "Mark", c.Mark('c', 3), api.OK)
	undo(t, c)
	checkLines(t, c, "a", "b", "c")
	checkCur(t, c, 1)
	checkMarks(t, c, map[byte]int{'a': 2})
	checkReg(t, c.Regs(), 'a', "x")
	if v := c.View(); v.Last != "p" {
		t.Errorf("a pattern %q", v.Last)
	}
	checkErr(t, "Go", c.Go(2), api.OK)
	checkErr(t, "Mark", c.Mark('d', 1), api.OK)
	undo(t, c)
	checkLines(t, c, "b", "c", "d")
	checkCur(t, c, 3)
	checkMarks(t, c, map[byte]int{'b': 2, 'c': 3})
	undo(t, c)
	checkLines(t, c, "a", "b", "c")
	checkCur(t, c, 2)
	checkMarks(t, c, map[byte]int{'a': 2, 'd': 1})
}

// P19.4
func TestAbort(t *testing.T) {
	c := made(t, "a", "b", "c")
	done(t, c, ins(3, "d"))
	c.Clean()
	checkErr(t, "Mark", c.Mark('a', 2), api.OK)
	checkErr(t, "Go", c.Go(1), api.OK)
	set(t, c, 'a', "kept")
	c.Last("p")
	begin(t, c)
	splice(t, c, del(1, 1), ins(0, "x"))
	checkErr(t, "Go", c.Go(4), api.OK)
	checkErr(t, "Mark", c.Mark('a', 1), api.OK)
	checkErr(t, "Mark", c.Mark('b', 1), api.OK)
	set(t, c, 'A', "gone")
	set(t, c, 'b', "gone")
	checkErr(t, "Push", c.Regs().Push(api.Reg{Lines: []string{"gone"}}), api.OK)
	c.Last("q")
	c.Abort()
	checkLines(t, c, "a", "b", "c", "d")
	checkCur(t, c, 1)
	checkMarks(t, c, map[byte]int{'a': 2})
	for letter, want := range map[byte]string{'a': "kept", 0: "kept", 'b': "", '1': ""} {
		checkReg(t, c.Regs(), letter, want)
	}
	if v := c.View(); v.Last != "q" {
		t.Errorf("a pattern %q", v.Last)
	}
	checkErr(t, "Splice", c.Splice(del(0, 1)), api.ErrArg)
	checkSplices(t, c.End())
	checkDirty(t, c, false)
	undo(t, c)
	checkLines(t, c, "a", "b", "c")
}

// P19.4: where no change has begun nothing goes back.
func TestAbortOfNoChange(t *testing.T) {
	c := made(t, "a", "b")
	checkErr(t, "Go", c.Go(1), api.OK)
	set(t, c, 'a', "x")
	c.Abort()
	checkCur(t, c, 1)
	checkReg(t, c.Regs(), 'a', "x")
	done(t, c, del(0, 1))
	checkErr(t, "Mark", c.Mark('a', 1), api.OK)
	set(t, c, 'b', "y")
	c.Abort()
	checkLines(t, c, "b")
	checkMarks(t, c, map[byte]int{'a': 1})
	checkReg(t, c.Regs(), 'b', "y")
	checkDirty(t, c, true)
	begin(t, c)
	splice(t, c, ins(0, "x"))
	c.Abort()
	set(t, c, 'c', "z")
	checkErr(t, "Go", c.Go(0), api.OK)
	c.Abort()
	checkCur(t, c, 0)
	checkReg(t, c.Regs(), 'c', "z")
	undo(t, c)
	checkLines(t, c, "a", "b")
}

// P19.2, P19.4: whoever was handed the registers has the buffer's own, behind changes and aborts, too.
func TestRegsThemselves(t *testing.T) {
	c := made(t, "a")
	r := c.Regs()
	if r == nil {
		t.Fatal("no registers")
	}
	other := made(t, "a")
	set(t, other, 'a', "other")
	checkReg(t, r, 'a', "")
	set(t, c, 'a', "x")
	checkReg(t, r, 'a', "x")
	begin(t, c)
	set(t, c, 'a', "y")
	checkReg(t, r, 'a', "y")
	c.Abort()
	checkReg(t, r, 'a', "x")
	checkErr(t, "Set", r.Set('b', api.Reg{Lines: []string{"z"}}), api.OK)
	checkReg(t, c.Regs(), 'b', "z")
	begin(t, c)
	set(t, c, 'c', "w")
	splice(t, c, del(0, 1))
	c.End()
	undo(t, c)
	checkReg(t, r, 'c', "w")
	checkReg(t, c.Regs(), 'c', "w")
}

// R1: registers that were made none from outside.
func TestRegsThatAreNone(t *testing.T) {
	c := made(t, "a")
	*c.Regs() = regs.Regs{}
	begin(t, c)
	splice(t, c, del(0, 1))
	c.Abort()
	checkLines(t, c, "a")
	checkErr(t, "Set", c.Regs().Set('a', api.Reg{Lines: []string{"x"}}), api.ErrNil)
}

// P19.5
func TestUndo(t *testing.T) {
	c := made(t, "a", "b")
	checkNoUndo(t, c, api.ErrUndo)
	begin(t, c)
	checkNoUndo(t, c, api.ErrArg)
	splice(t, c, del(0, 2))
	checkNoUndo(t, c, api.ErrArg)
	checkLines(t, c)
	c.Abort()
	checkNoUndo(t, c, api.ErrUndo)
	checkDirty(t, c, false)
	done(t, c, del(0, 1))
	done(t, c, del(0, 1))
	begin(t, c)
	checkNoUndo(t, c, api.ErrArg)
	c.End()
	for range 3 {
		undo(t, c)
		checkLines(t, c, "b")
		checkDirty(t, c, true)
		c.Clean()
		undo(t, c)
		checkLines(t, c)
		checkDirty(t, c, true)
		c.Clean()
	}
	done(t, c, ins(0, "x"))
	undo(t, c)
	checkLines(t, c)
}

// P19.5: a change behind an undo is what the next one brings back.
func TestChangeBehindAnUndo(t *testing.T) {
	c := made(t, "a")
	done(t, c, ins(1, "b"))
	undo(t, c)
	done(t, c, ins(1, "c"))
	undo(t, c)
	checkLines(t, c, "a")
	undo(t, c)
	checkLines(t, c, "a", "c")
	begin(t, c)
	splice(t, c, del(0, 2))
	c.Abort()
	undo(t, c)
	checkLines(t, c, "a")
}

// P19.5, P19.6: of as many lines as there may be.
func TestUndoOfManyLines(t *testing.T) {
	long := strings.Repeat("x", 1000)
	c := made(t, many(2000, long)...)
	done(t, c, api.Splice{Del: 2000, Ins: many(2000, "y")})
	undo(t, c)
	checkLines(t, c, many(2000, long)...)
	undo(t, c)
	checkLines(t, c, many(2000, "y")...)
	begin(t, c)
	for i := range 2000 {
		splice(t, c, api.Splice{At: i, Del: 1, Ins: []string{"z"}})
	}
	if l := c.End(); len(l) != 2000 || !sameSplice(l[1999], api.Splice{At: 1999, Del: 1, Ins: []string{"z"}}) {
		t.Errorf("%d splices", len(l))
	}
	undo(t, c)
	checkLines(t, c, many(2000, "y")...)
}

// R3
func TestNone(t *testing.T) {
	for _, c := range []*Core{nil, {}, new(Core)} {
		for range 2 {
			checkErr(t, "Go", c.Go(0), api.ErrNil)
			checkErr(t, "Go", c.Go(9), api.ErrNil)
			checkErr(t, "Mark", c.Mark('A', 9), api.ErrNil)
			checkErr(t, "Begin", c.Begin(), api.ErrNil)
			checkErr(t, "Splice", c.Splice(api.Splice{}), api.ErrNil)
			checkErr(t, "Splice", c.Splice(del(-1, 0)), api.ErrNil)
			checkSplices(t, c.End())
			checkNoUndo(t, c, api.ErrNil)
			c.Last("p")
			c.Clean()
			c.Abort()
			if v := c.View(); len(v.Lines) != 0 || v.Cur != 0 || v.Marks != (api.Marks{}) || v.Last != "" {
				t.Errorf("View: %v", v)
			}
			if c.N() != 0 || c.Line(1) != "" || len(c.Lines(0, 9)) != 0 || c.Cur() != 0 || c.Regs() != nil || c.Dirty() {
				t.Error("not nothing")
			}
		}
	}
}

// R4: lists that are handed in, or out.
func TestListsAreNotShared(t *testing.T) {
	l := []string{"a", "b"}
	c := made(t, l...)
	l[0] = "spoilt"
	checkLines(t, c, "a", "b")
	got := c.Lines(1, 2)
	got[0] = "spoilt"
	_ = append(c.Lines(1, 1), "spoilt")
	v := c.View()
	v.Lines[1] = "spoilt"
	checkLines(t, c, "a", "b")
	s := ins(2, "c", "d")
	begin(t, c)
	splice(t, c, s)
	s.Ins[0] = "spoilt"
	checkLines(t, c, "a", "b", "c", "d")
	told := c.End()
	checkSplices(t, told, ins(2, "c", "d"))
	told[0].Ins[0] = "spoilt"
	told[0].At = 9
	checkLines(t, c, "a", "b", "c", "d")
	back, e := c.Undo()
	checkErr(t, "Undo", e, api.OK)
	back[0].Ins[0] = "spoilt"
	checkLines(t, c, "a", "b")
	undo(t, c)
	checkLines(t, c, "a", "b", "c", "d")
}

// Between changes no table keeps pieces of lines that are gone.
func TestPiecesStayFew(t *testing.T) {
	c := made(t, many(100, "a")...)
	for i := range 50 {
		done(t, c, api.Splice{At: 2 * i, Del: 1, Ins: []string{"x"}}, ins(i, "y"), del(i+1, 1))
		if n := c.table.Pieces(); n != 1 {
			t.Fatalf("%d pieces", n)
		}
	}
	undo(t, c)
	if n := c.table.Pieces(); n != 1 {
		t.Errorf("%d pieces", n)
	}
}

// P19.4, P19.5: in a change of many splices a table stands in few pieces, and they lead where they ought to.
func TestPiecesStayFewInAChange(t *testing.T) {
	for _, abort := range []bool{false, true} {
		c := made(t, many(500, "a")...)
		begin(t, c)
		for i := range 250 {
			splice(t, c, api.Splice{At: 3 * i, Del: 1, Ins: []string{"x", "y"}})
			if n := c.table.Pieces(); n > mostPieces {
				t.Fatalf("%d pieces", n)
			}
		}
		behind := slices.Repeat([]string{"x", "y", "a"}, 250)
		checkLines(t, c, behind...)
		if abort {
			c.Abort()
			checkLines(t, c, many(500, "a")...)
			continue
		}
		if n := len(c.End()); n != 250 {
			t.Error(n)
		}
		checkLines(t, c, behind...)
		undo(t, c)
		checkLines(t, c, many(500, "a")...)
	}
}
