package logs

import (
	"errors"
	"slices"
	"strconv"
	"strings"
	"testing"

	"inkhorn/api"
	"inkhorn/files"
	"inkhorn/frames"
)

// made is a new file system with some files, all of whose bytes are on the platter: a name, and the bytes behind it, and so on.
func made(t *testing.T, capacity int, has ...string) *files.FS {
	t.Helper()
	f, e := files.New(capacity)
	checkErr(t, "New", e, api.OK)
	for i := 0; i < len(has); i += 2 {
		checkErr(t, "Append", f.Append(has[i], has[i+1]), api.OK)
		checkErr(t, "Sync", f.Sync(has[i]), api.OK)
	}
	return f
}

// begun is a journal that begins with some lines, and its file system.
func begun(t *testing.T, l ...string) (*Log, *files.FS) {
	t.Helper()
	f := made(t, api.MaxDisk)
	x, e := Start(f, l)
	if x == nil || e != api.OK {
		t.Fatalf("Start: %v, %d", x, e)
	}
	return x, f
}

func checkErr(t *testing.T, name string, got, want api.Errno) {
	t.Helper()
	if got != want {
		t.Fatalf("%s: %d, not %d", name, got, want)
	}
}

// checkFiles tells where the files are others than these: a name, and the bytes behind it, and so on.
func checkFiles(t *testing.T, f *files.FS, want ...string) {
	t.Helper()
	var got []string
	for _, name := range f.Names() {
		text, e := f.Read(name)
		checkErr(t, "Read "+name, e, api.OK)
		got = append(got, name, text)
	}
	if !slices.Equal(got, want) {
		t.Errorf("%.200q, not %.200q", got, want)
	}
}

// checkInAir tells where others than so many bytes of each file are in the air.
func checkInAir(t *testing.T, f *files.FS, want ...int) {
	t.Helper()
	if got := f.Unsynced(); !slices.Equal(got, want) {
		t.Errorf("%d in the air, not %d", got, want)
	}
}

// checkLines tells where Recover leads elsewhere than to these lines, behind so many changes.
func checkLines(t *testing.T, f *files.FS, changes int, want ...string) {
	t.Helper()
	l, n, e := Recover(f)
	if e != api.OK || n != changes || !slices.Equal(l, want) {
		t.Errorf("Recover: %.200q, %d, %d, not %.200q, %d", l, n, e, want, changes)
	}
}

// checkLost tells where Recover answers anything but an error.
func checkLost(t *testing.T, f *files.FS, want api.Errno) {
	t.Helper()
	if l, n, e := Recover(f); len(l) != 0 || n != 0 || e != want {
		t.Errorf("Recover: %.200q, %d, %d, not %d", l, n, e, want)
	}
}

// put is a list's bytes by the document's words.
func put(l ...string) string {
	all := []string{strconv.Itoa(len(l)) + ":"}
	for _, text := range l {
		all = append(all, strconv.Itoa(len(text))+":"+text)
	}
	return strings.Join(all, "")
}

// putSplice is a splice's bytes by the document's words.
func putSplice(s api.Splice) string {
	return strconv.Itoa(s.At) + ":" + strconv.Itoa(s.Del) + ":" + put(s.Ins...)
}

// base is the payload of the lines with which a journal begins.
func base(l ...string) string { return "b" + put(l...) }

// change is the payload of a change.
func change(l ...api.Splice) string {
	var all []string
	for _, s := range l {
		all = append(all, putSplice(s))
	}
	return "c" + put(all...)
}

// framed is payloads' frames, one behind the other.
func framed(t *testing.T, payloads ...string) string {
	t.Helper()
	s := ""
	for _, p := range payloads {
		f, e := frames.Frame(p)
		checkErr(t, "Frame", e, api.OK)
		s += f
	}
	return s
}

// ins is a splice that lays lines behind the first at ones.
func ins(at int, l ...string) api.Splice { return api.Splice{At: at, Ins: l} }

// del is a splice that takes n lines behind the first at ones away.
func del(at, n int) api.Splice { return api.Splice{At: at, Del: n} }

// long is so many lines of so many bytes.
func long(n, size int) []string { return slices.Repeat([]string{strings.Repeat("x", size)}, n) }

// crash takes a file system's power away, and gives it back.
func crash(t *testing.T, f *files.FS, keep ...int) {
	t.Helper()
	checkErr(t, "Crash", f.Crash(keep), api.OK)
	checkErr(t, "files' Start", f.Start(), api.OK)
}

// The examples of the document.
func TestExamples(t *testing.T) {
	f := made(t, 1000)
	x, e := Start(f, []string{"a", "b"})
	checkErr(t, "Start", e, api.OK)
	checkErr(t, "Add", x.Add([]api.Splice{ins(1, "x")}), api.OK)
	checkLines(t, f, 1, "a", "x", "b")
	crash(t, f)
	checkLines(t, f, 0, "a", "b")
	checkErr(t, "Stop", Stop(f), api.OK)
	checkLost(t, f, api.ErrNone)
}

// Words: what stands in the file, to the byte.
func TestBytes(t *testing.T) {
	x, f := begun(t, "a", "b")
	checkErr(t, "Add", x.Add([]api.Splice{ins(1, "x"), del(0, 2)}), api.OK)
	checkFiles(t, f, "log", "9:b2:1:a1:b0bcd0267\n22:c2:9:1:0:1:1:x6:0:2:0:3bb40515\n")
}

// P18.1
func TestStart(t *testing.T) {
	for _, l := range [][]string{nil, {}, {""}, {"a"}, {"a", "", "b"}, {"1:a", "\xff\x00", "b2:"}, long(2000, 100), long(700, 1000)} {
		for _, has := range [][]string{nil, {"log", "elder"}, {"log+", "left"}, {"log", framed(t, base("elder")), "log+", framed(t, base("left"))}} {
			f := made(t, api.MaxDisk, append(slices.Clone(has), "other", "text")...)
			x, e := Start(f, l)
			if x == nil || e != api.OK {
				t.Fatalf("Start: %v, %d", x, e)
			}
			checkFiles(t, f, "log", framed(t, base(l...)), "other", "text")
			checkInAir(t, f, 0, 0)
			checkLines(t, f, 0, l...)
			crash(t, f)
			checkLines(t, f, 0, l...)
		}
	}
}

// P18.1: which acts there are, one behind the other, as a failing one shows.
func TestStartByActs(t *testing.T) {
	elder, next := framed(t, base("elder")), framed(t, base("next"))
	for _, c := range []struct {
		has, want []string
		n         int
		keep      []int
	}{
		{has: []string{"log", elder}, n: 0, want: []string{"log", elder, "log+", ""}}, // an Append is done by then
		{has: []string{"log", elder}, n: 0, keep: []int{0, 4}, want: []string{"log", elder, "log+", next[:4]}},
		{has: []string{"log", elder}, n: 1, keep: []int{0, 4}, want: []string{"log", elder, "log+", next[:4]}},
		{has: []string{"log", elder}, n: 2, want: []string{"log", elder, "log+", next}},
		{has: []string{"log", elder, "log+", "left"}, n: 0, want: []string{"log", elder, "log+", "left"}},
		{has: []string{"log", elder, "log+", "left"}, n: 1, keep: []int{0, 99}, want: []string{"log", elder, "log+", next}},
		{has: []string{"log", elder, "log+", "left"}, n: 2, want: []string{"log", elder, "log+", ""}},
		{has: []string{"log", elder, "log+", "left"}, n: 3, want: []string{"log", elder, "log+", next}},
		{n: 2, want: []string{"log+", next}},
	} {
		f := made(t, 1000, c.has...)
		checkErr(t, "Fail", f.Fail(c.n, c.keep), api.OK)
		if x, e := Start(f, []string{"next"}); x != nil || e != api.ErrDown {
			t.Errorf("Fail of %d: %v, %d", c.n, x, e)
		}
		checkErr(t, "files' Start", f.Start(), api.OK)
		checkFiles(t, f, c.want...)
	}
}

// P18.1: behind the last act there is none.
func TestStartHasNoMoreActs(t *testing.T) {
	for n, has := range map[int][]string{3: nil, 4: {"log+", "left"}} {
		f := made(t, 1000, has...)
		checkErr(t, "Fail", f.Fail(n, nil), api.OK)
		if x, e := Start(f, []string{"next"}); x == nil || e != api.OK {
			t.Errorf("Fail of %d: %v, %d", n, x, e)
		}
		checkErr(t, "Append", f.Append("a", "a"), api.ErrDown)
	}
}

// P18.1, R3, R5: each error is ahead of those that are named behind it.
func TestStartTellsErrors(t *testing.T) {
	tooLong := []string{strings.Repeat("x", api.MaxFrame)}
	for _, f := range []*files.FS{nil, {}, new(files.FS)} {
		for _, l := range [][]string{nil, {"a"}, tooLong} {
			if x, e := Start(f, l); x != nil || e != api.ErrNil {
				t.Errorf("a file system that is none: %v, %d", x, e)
			}
		}
	}
	f := made(t, 1000, "log", "elder", "log+", "left")
	checkErr(t, "Crash", f.Crash(nil), api.OK)
	for _, c := range []struct {
		l    []string
		want api.Errno
	}{{nil, api.ErrDown}, {[]string{"a"}, api.ErrDown}, {tooLong, api.ErrLong}} {
		if x, e := Start(f, c.l); x != nil || e != c.want {
			t.Errorf("one that is off: %v, %d, not %d", x, e, c.want)
		}
	}
	checkErr(t, "files' Start", f.Start(), api.OK)
	checkFiles(t, f, "log", "elder", "log+", "left")
}

// P18.1: how many bytes a frame takes, the letter among them, and what an error leaves.
func TestStartOfTooManyBytes(t *testing.T) {
	// Ahead of the text's own bytes stand b, 1, a colon, its seven digits, and a colon.
	const most = api.MaxFrame - 11
	f := made(t, 1000, "log", "elder", "log+", "left")
	for _, l := range [][]string{{strings.Repeat("x", most+1)}, long(4200, 1000), {strings.Repeat("x", api.MaxFrame+1)}} {
		if x, e := Start(f, l); x != nil || e != api.ErrLong {
			t.Errorf("%d lines of %d bytes: %v, %d", len(l), len(l[0]), x, e)
		}
		checkFiles(t, f, "log", "elder", "log+", "left")
	}
	if x, e := Start(f, []string{strings.Repeat("x", most)}); x != nil || e != api.ErrFull {
		t.Errorf("as many bytes as a frame takes: %v, %d", x, e)
	}
	checkFiles(t, f, "log", "elder")
}

// P18.1: a journal for which there is no room leaves the elder one.
func TestStartWithoutRoom(t *testing.T) {
	elder, next := framed(t, base("elder")), framed(t, base("next"))
	room := len(elder) + len(next)
	f := made(t, room-1, "log", elder)
	if x, e := Start(f, []string{"next"}); x != nil || e != api.ErrFull {
		t.Errorf("%v, %d", x, e)
	}
	checkFiles(t, f, "log", elder)
	f = made(t, room, "log", elder[:len(elder)-1], "log+", "x")
	if x, e := Start(f, []string{"next"}); x == nil || e != api.OK {
		t.Errorf("where a draft had the room: %v, %d", x, e)
	}
	checkFiles(t, f, "log", next)
	f = made(t, 1000, "log", elder)
	for i := range api.MaxFiles - 1 {
		checkErr(t, "Append", f.Append("f"+strconv.Itoa(i), ""), api.OK)
	}
	if x, e := Start(f, []string{"next"}); x != nil || e != api.ErrFull {
		t.Errorf("with as many files as there may be: %v, %d", x, e)
	}
	checkLines(t, f, 0, "elder")
}

// P18.2
func TestAdd(t *testing.T) {
	x, f := begun(t, "a", "b")
	want := framed(t, base("a", "b"))
	checkErr(t, "Sync", x.Sync(), api.OK)
	for i, c := range []struct {
		l    []api.Splice
		want []string
	}{
		{[]api.Splice{ins(1, "x")}, []string{"a", "x", "b"}},
		{[]api.Splice{del(0, 1), ins(2, "y", "z"), {At: 1, Del: 1, Ins: []string{"", "\xff"}}}, []string{"x", "", "\xff", "y", "z"}},
		{[]api.Splice{{}}, []string{"x", "", "\xff", "y", "z"}},
		{[]api.Splice{del(0, 5)}, nil},
		{[]api.Splice{ins(0, long(300, 1000)...), del(1, 298)}, long(2, 1000)},
	} {
		checkErr(t, "Add", x.Add(c.l), api.OK)
		want += framed(t, change(c.l...))
		checkFiles(t, f, "log", want)
		checkInAir(t, f, len(want)-len(framed(t, base("a", "b"))))
		checkLines(t, f, i+1, c.want...)
	}
}

// P18.2: no splices are no act, and no change.
func TestAddOfNothing(t *testing.T) {
	x, f := begun(t, "a")
	checkErr(t, "Fail", f.Fail(0, nil), api.OK)
	checkErr(t, "Add of none", x.Add(nil), api.OK)
	checkErr(t, "Add of none", x.Add([]api.Splice{}), api.OK)
	checkFiles(t, f, "log", framed(t, base("a")))
	checkLines(t, f, 0, "a")
	checkErr(t, "Add", x.Add([]api.Splice{del(0, 1)}), api.ErrDown)
}

// P18.2: the error of the first splice that has one; behind it the journal is as it was, and goes on.
func TestAddOfWrongSplices(t *testing.T) {
	x, f := begun(t, "a")
	checkErr(t, "Fail", f.Fail(1, nil), api.OK)
	good, arg, tooLong := ins(0, "x"), ins(0, "x\n"), ins(0, strings.Repeat("x", api.MaxBytes+1))
	for i, c := range []struct {
		l    []api.Splice
		want api.Errno
	}{
		{[]api.Splice{arg}, api.ErrArg},
		{[]api.Splice{del(-1, 0)}, api.ErrArg},
		{[]api.Splice{del(0, -1)}, api.ErrArg},
		{[]api.Splice{tooLong}, api.ErrLong},
		{[]api.Splice{ins(0, make([]string, 2001)...)}, api.ErrLong},
		{[]api.Splice{good, arg}, api.ErrArg},
		{[]api.Splice{good, arg, tooLong}, api.ErrArg},
		{[]api.Splice{good, tooLong, arg, good}, api.ErrLong},
		{append(slices.Repeat([]api.Splice{ins(0, long(2000, 1000)...)}, 3), arg), api.ErrArg}, // ahead of being too many
	} {
		if e := x.Add(c.l); e != c.want {
			t.Errorf("%d: %d, not %d", i, e, c.want)
		}
		checkFiles(t, f, "log", framed(t, base("a")))
	}
	checkErr(t, "Add", x.Add([]api.Splice{good}), api.OK)
	checkErr(t, "a second act", x.Sync(), api.ErrDown)
}

// manyBytes is a change whose payload has just so many bytes: some more than those of two splices of as many lines as there may be.
func manyBytes(t *testing.T, size int) []api.Splice {
	t.Helper()
	most, rest := ins(0, long(2000, 1000)...), strings.Repeat("x", 100)
	for n := 150; n < 250; n++ {
		l := []api.Splice{most, most, ins(0, append(long(n, 1000), rest, rest)...)}
		// No text's size gets a digit more by as many bytes as make these two up to 999.
		if more := size - len(change(l...)); more >= 0 && more <= 2*899 {
			last := l[2].Ins
			last[n] += strings.Repeat("x", min(more, 899))
			last[n+1] += strings.Repeat("x", more-min(more, 899))
			return l
		}
	}
	t.Fatalf("there is no change of %d bytes", size)
	return nil
}

// P18.2: how many bytes a frame takes; a change for which there is no room is not laid, and the next one may be.
func TestAddOfTooManyBytes(t *testing.T) {
	x, f := begun(t, "a")
	for _, size := range []int{api.MaxFrame, api.MaxFrame + 1} {
		if got := len(change(manyBytes(t, size)...)); got != size {
			t.Fatalf("a change of %d bytes, not %d", got, size)
		}
	}
	checkErr(t, "a byte too many", x.Add(manyBytes(t, api.MaxFrame+1)), api.ErrLong)
	checkErr(t, "more", x.Add(slices.Repeat([]api.Splice{ins(0, long(2000, 1000)...)}, 3)), api.ErrLong)
	checkErr(t, "as many as a frame takes", x.Add(manyBytes(t, api.MaxFrame)), api.ErrFull)
	checkFiles(t, f, "log", framed(t, base("a")))
	checkErr(t, "Add", x.Add([]api.Splice{ins(1, "b")}), api.OK)
	checkErr(t, "Sync", x.Sync(), api.OK)
	crash(t, f)
	checkLines(t, f, 1, "a", "b")
}

// P18.2: ErrFull leaves the journal, which is not over.
func TestAddWithoutRoom(t *testing.T) {
	first, small := framed(t, base("a")), framed(t, change(del(0, 1)))
	f := made(t, len(first)+len(small))
	x, e := Start(f, []string{"a"})
	checkErr(t, "Start", e, api.OK)
	checkErr(t, "Add of too much", x.Add([]api.Splice{ins(0, "x")}), api.ErrFull)
	checkErr(t, "Add of too much", x.Add([]api.Splice{ins(0, "x")}), api.ErrFull)
	checkFiles(t, f, "log", first)
	checkErr(t, "Sync", x.Sync(), api.OK)
	checkErr(t, "Add", x.Add([]api.Splice{del(0, 1)}), api.OK)
	checkErr(t, "Add", x.Add([]api.Splice{del(0, 0)}), api.ErrFull)
	checkErr(t, "Sync", x.Sync(), api.OK)
	crash(t, f)
	checkLines(t, f, 1)
}

// P18.2
func TestSync(t *testing.T) {
	x, f := begun(t, "a")
	checkErr(t, "Append", f.Append("other", "text"), api.OK)
	checkErr(t, "Add", x.Add([]api.Splice{ins(1, "b")}), api.OK)
	checkErr(t, "Add", x.Add([]api.Splice{ins(2, "c")}), api.OK)
	checkErr(t, "Sync", x.Sync(), api.OK)
	checkInAir(t, f, 0, 4)
	checkErr(t, "Add", x.Add([]api.Splice{ins(3, "d")}), api.OK)
	checkLines(t, f, 3, "a", "b", "c", "d")
	crash(t, f, 5)
	checkLines(t, f, 2, "a", "b", "c")
}

// checkOver tells where a journal does anything but tell ErrDown, ahead of all other errors.
func checkOver(t *testing.T, x *Log) {
	t.Helper()
	checkErr(t, "Add of nothing", x.Add(nil), api.ErrDown)
	checkErr(t, "Add of one that may not be", x.Add([]api.Splice{del(-1, 0)}), api.ErrDown)
	checkErr(t, "Add", x.Add([]api.Splice{{}}), api.ErrDown)
	checkErr(t, "Sync", x.Sync(), api.ErrDown)
}

// P18: a journal whose file system is down, or was started since, is over.
func TestOverByACrash(t *testing.T) {
	x, f := begun(t, "a")
	checkErr(t, "Crash", f.Crash(nil), api.OK)
	checkOver(t, x)
	checkErr(t, "files' Start", f.Start(), api.OK)
	checkOver(t, x)
	checkFiles(t, f, "log", framed(t, base("a")))
	y, e := Start(f, []string{"b"})
	checkErr(t, "Start", e, api.OK)
	checkOver(t, x)
	checkErr(t, "Add", y.Add([]api.Splice{ins(0, "x")}), api.OK)
	checkErr(t, "Sync", y.Sync(), api.OK)
	checkLines(t, f, 1, "x", "b")
}

// P18: of a file system that was not touched between two acts a journal may still be over.
func TestOverByAStart(t *testing.T) {
	x, f := begun(t, "a")
	crash(t, f)
	checkOver(t, x)
	y, e := Start(f, []string{"b"})
	checkErr(t, "Start", e, api.OK)
	crash(t, f)
	crash(t, f)
	checkOver(t, y)
}

// P18: a journal to which an act fails is over.
func TestOverByAnAct(t *testing.T) {
	x, f := begun(t, "a")
	checkErr(t, "Fail", f.Fail(0, []int{99}), api.OK)
	checkErr(t, "Add", x.Add([]api.Splice{ins(0, "x")}), api.ErrDown)
	checkOver(t, x)
	checkErr(t, "files' Start", f.Start(), api.OK)
	checkOver(t, x)
	checkLines(t, f, 1, "x", "a") // the act was done, and all of it was kept
}

// P18.2: what the file system answers, and that it is over behind that, whatever comes.
func TestOverByAnError(t *testing.T) {
	x, f := begun(t, "a")
	checkErr(t, "Stop", Stop(f), api.OK)
	checkErr(t, "Sync", x.Sync(), api.ErrNone)
	checkOver(t, x)
	_, e := Start(f, []string{"b"})
	checkErr(t, "Start", e, api.OK)
	checkOver(t, x)
	checkLines(t, f, 0, "b")
}

// P18.2: a change is laid, wherever the journal's file has gone.
func TestAddBehindAStop(t *testing.T) {
	x, f := begun(t, "a")
	checkErr(t, "Stop", Stop(f), api.OK)
	checkErr(t, "Add", x.Add([]api.Splice{ins(0, "x")}), api.OK)
	checkErr(t, "Sync", x.Sync(), api.OK)
	checkFiles(t, f, "log", framed(t, change(ins(0, "x"))))
	checkLost(t, f, api.ErrBroke)
}

// R3
func TestNone(t *testing.T) {
	for _, x := range []*Log{nil, {}, new(Log)} {
		for _, l := range [][]api.Splice{nil, {{}}, {del(-1, 0)}} {
			checkErr(t, "Add", x.Add(l), api.ErrNil)
		}
		checkErr(t, "Sync", x.Sync(), api.ErrNil)
	}
	for _, f := range []*files.FS{nil, {}} {
		checkLost(t, f, api.ErrNil)
		checkErr(t, "Stop", Stop(f), api.ErrNil)
	}
}

// P18.3
func TestRecoverTellsErrors(t *testing.T) {
	f := made(t, 1000)
	checkLost(t, f, api.ErrNone)
	checkErr(t, "Append", f.Append("log+", framed(t, base("a"))), api.OK)
	checkLost(t, f, api.ErrNone)
	checkErr(t, "Rename", f.Rename("log+", "log"), api.OK)
	checkLines(t, f, 0, "a")
	checkErr(t, "Crash", f.Crash([]int{99}), api.OK)
	checkLost(t, f, api.ErrDown)
	checkErr(t, "files' Start", f.Start(), api.OK)
	checkLines(t, f, 0, "a")
}

// P18.3: bytes that are no journal's.
func TestRecoverOfWrongBytes(t *testing.T) {
	good, goodChange := base("a"), change(ins(1, "b"))
	splice := putSplice(ins(1, "b"))
	tooLong := strings.Repeat("x", 1001)
	for i, s := range []string{
		"", "b", good, "x", "\n",
		framed(t, ""), framed(t, "b"), framed(t, "b1:"), framed(t, "B0:"), framed(t, "0:"), framed(t, "c0:"),
		framed(t, put("a")), framed(t, "x"+put("a")), framed(t, "bb"+put("a")), framed(t, " "+good),
		framed(t, goodChange), framed(t, goodChange, good),
		framed(t, good+"x"), framed(t, good+"0:"), framed(t, "b01:1:a"), framed(t, good[:len(good)-1]),
		framed(t, base("a\nb")), framed(t, base("\n")), framed(t, base("a", "\n")), framed(t, base(tooLong, "b\n")), framed(t, base(append(make([]string, 2001), "\n")...)),
		framed(t, good)[1:], "x" + framed(t, good), framed(t, good)[:len(good)],
		framed(t, good, ""), framed(t, good, "c"), framed(t, good, "c0:"), framed(t, good, good), framed(t, good, base()),
		framed(t, good, "C"+put(splice)), framed(t, good, put(splice)), framed(t, good, goodChange+"x"), framed(t, good, goodChange+"0:"),
		framed(t, good, "c"+splice), framed(t, good, "c"+put("")), framed(t, good, "c"+put(splice, "")), framed(t, good, "c"+put(splice+"0:")),
		framed(t, good, "c"+put(splice[:len(splice)-1])), framed(t, good, "c"+put("01:0:0:")), framed(t, good, "c1:"), framed(t, good, "c2:"+put(splice)[2:]),
		framed(t, good, "c"+put(putSplice(ins(0, "\n")))), framed(t, good, "c"+put(putSplice(ins(0, tooLong)))),
		framed(t, good, change(ins(2, "b"))), framed(t, good, change(del(0, 2))), framed(t, good, change(del(1, 1))),
		framed(t, good, change(ins(0, make([]string, 2000)...))),
		framed(t, good, change(del(0, 1), del(0, 1))), framed(t, good, change(del(0, 1)), change(del(0, 1))),
		framed(t, good, goodChange, "c0:"), framed(t, good, "c0:", goodChange), framed(t, good, change(del(1, 1)), change(ins(0, "x"))),
		framed(t, good, change(ins(2), ins(0, "x"))), framed(t, good, goodChange, good), framed(t, good, goodChange, "x") + "torn",
	} {
		f := made(t, api.MaxDisk, "log", s, "log+", framed(t, good))
		if l, n, e := Recover(f); len(l) != 0 || n != 0 || e != api.ErrBroke {
			t.Errorf("%d: %.200q: %.200q, %d, %d", i, s, l, n, e)
		}
		checkFiles(t, f, "log", s, "log+", framed(t, good))
	}
}

// P18.1, P18.3, P18.4: a journal may begin with longer lines, or more, than a buffer takes; no change leads on from these.
func TestRecoverOfALongBeginning(t *testing.T) {
	for i, l := range [][]string{
		long(1, 1000), long(1, 1001), append(long(1, 1001), "a"), {"a", strings.Repeat("x", 1001)}, long(3, 5000),
		long(2000, 1), long(2001, 1), make([]string, 2001), long(5000, 3), long(2001, 100),
	} {
		x, f := begun(t, l...)
		checkLines(t, f, 0, l...)
		checkErr(t, "Add of nothing", x.Add(nil), api.OK)
		checkErr(t, "Sync", x.Sync(), api.OK)
		crash(t, f)
		checkLines(t, f, 0, l...)
		got, _, _ := Recover(f)
		got[0] = "spoilt"
		checkLines(t, f, 0, l...)
		next := framed(t, change(ins(0)))
		checkErr(t, "Append of a torn change", f.Append("log", next[:len(next)-1]), api.OK)
		checkLines(t, f, 0, l...)
		checkErr(t, "Append of its end", f.Append("log", next[len(next)-1:]), api.OK)
		if may := i == 0 || i == 5; may {
			checkLines(t, f, 1, l...)
		} else {
			checkLost(t, f, api.ErrBroke)
		}
	}
}

// P18.3: not even one that takes away what is too much.
func TestChangesOfALongBeginning(t *testing.T) {
	for _, l := range [][]string{long(1, 1001), long(2001, 1)} {
		for _, c := range [][]api.Splice{{del(0, 1)}, {ins(0, "x")}, {del(0, len(l))}, {{}}, {del(0, 1), ins(0, "x")}} {
			x, f := begun(t, l...)
			checkErr(t, "Add", x.Add(c), api.OK)
			checkLost(t, f, api.ErrBroke)
			crash(t, f)
			checkLines(t, f, 0, l...)
		}
	}
}

// P18.3: a journal that is torn at each place, or has something behind it.
func TestRecoverOfTornBytes(t *testing.T) {
	payloads := []string{base("a"), change(ins(1, "b")), change(ins(0, "0:", "c0:"), del(0, 1)), change(del(0, 3))}
	states := [][]string{{"a"}, {"a", "b"}, {"c0:", "a", "b"}, {}}
	whole := framed(t, payloads...)
	at := 0
	for size := range len(whole) + 1 {
		if at < len(payloads) && size == len(framed(t, payloads[:at+1]...)) {
			at++
		}
		f := made(t, 1000, "log", whole[:size])
		if at == 0 {
			checkLost(t, f, api.ErrBroke)
			continue
		}
		checkLines(t, f, at-1, states[at-1]...)
	}
	for _, s := range []string{"x", "\n", "0:", "0:0000000", "0:00000000", whole[1:], "9:" + whole} {
		f := made(t, 1000, "log", whole+s)
		checkLines(t, f, 3)
	}
}

// P18.3: nothing but a Read.
func TestRecoverIsNoAct(t *testing.T) {
	x, f := begun(t, "a")
	checkErr(t, "Append", f.Append("log+", "left"), api.OK)
	checkErr(t, "Add", x.Add([]api.Splice{ins(1, "b")}), api.OK)
	checkErr(t, "Fail", f.Fail(0, nil), api.OK)
	checkLines(t, f, 1, "a", "b")
	checkLines(t, f, 1, "a", "b")
	checkFiles(t, f, "log", framed(t, base("a"), change(ins(1, "b"))), "log+", "left")
	checkErr(t, "Sync", x.Sync(), api.ErrDown)
}

// P18.3
func TestStop(t *testing.T) {
	for _, has := range [][]string{nil, {"log", "x"}, {"log+", "y"}, {"log", framed(t, base("a")), "log+", "y"}, {"log", ""}} {
		f := made(t, 1000, append(slices.Clone(has), "lo", "1", "log++", "2", "~", "3")...)
		acts := len(has) / 2
		checkErr(t, "Fail", f.Fail(acts, nil), api.OK)
		checkErr(t, "Stop", Stop(f), api.OK)
		checkFiles(t, f, "lo", "1", "log++", "2", "~", "3")
		checkErr(t, "Stop once more", Stop(f), api.OK)
		checkErr(t, "an act more", f.Append("a", "a"), api.ErrDown)
	}
}

// P18.3: the first other error, and which act is ahead of the other.
func TestStopTellsErrors(t *testing.T) {
	for n, want := range [][]string{{"log", "x", "log+", "y"}, {"log", "x"}} {
		f := made(t, 1000, "log", "x", "log+", "y")
		checkErr(t, "Fail", f.Fail(n, nil), api.OK)
		checkErr(t, "Stop", Stop(f), api.ErrDown)
		checkErr(t, "Stop", Stop(f), api.ErrDown)
		checkErr(t, "files' Start", f.Start(), api.OK)
		checkFiles(t, f, want...)
	}
	f := made(t, 1000, "log", "x")
	checkErr(t, "Crash", f.Crash(nil), api.OK)
	checkErr(t, "Stop", Stop(f), api.ErrDown)
	checkErr(t, "files' Start", f.Start(), api.OK)
	checkFiles(t, f, "log", "x")
}

// R4
func TestListsAreNotShared(t *testing.T) {
	f := made(t, 1000)
	l := []string{"a", "b"}
	x, e := Start(f, l)
	checkErr(t, "Start", e, api.OK)
	l[0] = "spoilt"
	c := []api.Splice{ins(2, "c", "d")}
	checkErr(t, "Add", x.Add(c), api.OK)
	if len(c) != 1 || c[0].At != 2 || c[0].Del != 0 || !slices.Equal(c[0].Ins, []string{"c", "d"}) {
		t.Errorf("Add changed %v", c)
	}
	c[0].Ins[0], c[0] = "spoilt", del(9, 9)
	checkLines(t, f, 1, "a", "b", "c", "d")
	got, _, _ := Recover(f)
	got[0], got[3] = "spoilt", "spoilt"
	checkLines(t, f, 1, "a", "b", "c", "d")
}

// Ways: what a file system told can be told from what it told in another act.
func TestTroubles(t *testing.T) {
	if err := told(syncing, api.OK); err != nil || hinders(err) || number(err) != api.OK {
		t.Errorf("of no error: %v", err)
	}
	err := told(removing, api.ErrNone)
	if !errors.Is(err, api.ErrNone) || errors.Is(err, api.ErrDown) || hinders(err) || number(err) != api.ErrNone {
		t.Errorf("what is to be removed, and is not there: %v", err)
	}
	for _, err := range []error{told(syncing, api.ErrNone), told(renaming, api.ErrNone), told(removing, api.ErrDown), told(appending, api.ErrFull)} {
		if !hinders(err) {
			t.Errorf("%v does not hinder", err)
		}
	}
	if s := err.Error(); s != "logs: remove: inkhorn: error 4" {
		t.Error(s)
	}
}
