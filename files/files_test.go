package files

import (
	"math"
	"slices"
	"strconv"
	"strings"
	"testing"

	"inkhorn/api"
)

// made is a new file system behind some acts, each of which is OK.
func made(t *testing.T, limit int, acts ...act) *FS {
	t.Helper()
	f, e := New(limit)
	if e != api.OK || f == nil {
		t.Fatalf("New(%d): %v, %d", limit, f, e)
	}
	for _, a := range acts {
		check(t, f, a, api.OK)
	}
	return f
}

// check tells where an act answers something else; an error that is no crash must have changed nothing, too.
func check(t *testing.T, f *FS, a act, want api.Errno) {
	t.Helper()
	before := state(f)
	if got := a.do(f); got != want {
		t.Errorf("%s: %d, not %d", a.name, got, want)
	}
	if after := state(f); want != api.OK && f.Up() && after != before {
		t.Errorf("%s: %s, but it was %s", a.name, after, before)
	}
}

// checkFiles tells where the files are others than these: a name, and the bytes behind it, and so on.
func checkFiles(t *testing.T, f *FS, want ...string) {
	t.Helper()
	var got []string
	for _, name := range f.Names() {
		text, e := f.Read(name)
		if e != api.OK {
			t.Errorf("Read %q: %d", name, e)
		}
		got = append(got, name, text)
	}
	if !slices.Equal(got, want) {
		t.Errorf("%q, not %q", got, want)
	}
}

// full is a file system with as many files as there may be, each of one byte.
func full(t *testing.T) *FS {
	f := made(t, 1000)
	for i := range api.MaxFiles {
		check(t, f, appends("f"+strconv.Itoa(i), "x"), api.OK)
	}
	return f
}

// P5.1
func TestNew(t *testing.T) {
	for _, capacity := range []int{0, -1, math.MinInt, 1<<20 + 1, math.MaxInt} {
		if f, e := New(capacity); f != nil || e != api.ErrArg {
			t.Errorf("New(%d): %v, %d", capacity, f, e)
		}
	}
	for _, capacity := range []int{1, 2, 1 << 20} {
		f := made(t, capacity)
		if !f.Up() || f.Starts() != 0 || f.Size() != 0 || len(f.Names()) != 0 || len(f.Unsynced()) != 0 {
			t.Errorf("New(%d): %s", capacity, state(f))
		}
		check(t, f, appends("a", strings.Repeat("x", capacity+1)), api.ErrFull)
		check(t, f, appends("a", strings.Repeat("x", capacity)), api.OK)
		check(t, f, appends("a", "x"), api.ErrFull)
	}
}

// P5.1
func TestFileSystemsAreOfTheirOwn(t *testing.T) {
	f, g := made(t, 10), made(t, 10)
	check(t, f, appends("a", "123"), api.OK)
	check(t, f, crashes(9), api.OK)
	checkFiles(t, g)
	check(t, g, appends("a", "4"), api.OK)
	check(t, f, starts(), api.OK)
	checkFiles(t, f, "a", "123")
}

// R1, R3: ErrNil is ahead of all other errors.
func TestNone(t *testing.T) {
	for i, f := range []*FS{nil, {}, new(FS)} {
		for _, a := range []act{
			appends("a", "x"), appends("", ""), syncs("a"), truncates("a", -1), renames("a", ""), removes("a"),
			crashes(), crashes(1, 2), fails(0), fails(-1, 3), starts(),
		} {
			if e := a.do(f); e != api.ErrNil {
				t.Errorf("%d: %s: %d", i, a.name, e)
			}
		}
		if text, e := f.Read("a"); text != "" || e != api.ErrNil {
			t.Errorf("%d: Read: %q, %d", i, text, e)
		}
		if len(f.Names()) != 0 || f.Size() != 0 || len(f.Unsynced()) != 0 || f.Up() || f.Starts() != 0 {
			t.Errorf("%d: it tells something", i)
		}
	}
}

// The document's examples.
func TestExamples(t *testing.T) {
	f := made(t, 10, appends("b", "xyz"), syncs("b"), appends("b", "uv"), appends("a", "12345"))
	check(t, f, appends("a", "6"), api.ErrFull)
	if !slices.Equal(f.Names(), []string{"a", "b"}) || f.Size() != 10 || !slices.Equal(f.Unsynced(), []int{5, 2}) {
		t.Error(state(f))
	}
	check(t, f, crashes(3, 1), api.OK)
	check(t, f, starts(), api.OK)
	checkFiles(t, f, "a", "123", "b", "xyzu")
	check(t, f, fails(1, 0, 9), api.OK)
	check(t, f, truncates("b", 2), api.OK)
	check(t, f, appends("b", "q"), api.ErrDown)
	check(t, f, starts(), api.OK)
	checkFiles(t, f, "a", "123", "b", "xyq")
}

// P5.2
func TestAppend(t *testing.T) {
	f := made(t, 20, appends("b", "12"), appends("a", ""), appends("b", "\n\x00\xff"), appends("b", ""))
	checkFiles(t, f, "a", "", "b", "12\n\x00\xff")
	if !slices.Equal(f.Unsynced(), []int{0, 5}) {
		t.Error(f.Unsynced())
	}
	longest := strings.Repeat("n", api.MaxName)
	for _, name := range []string{longest, "\x00", "\n", " ", "/", "\xff\xfe", "~"} {
		check(t, f, appends(name, "x"), api.OK)
	}
	for _, name := range []string{"", longest + "n", strings.Repeat("\u00e9", 9)} { // bytes, not runes
		check(t, f, appends(name, "x"), api.ErrArg)
		check(t, f, appends(name, strings.Repeat("x", 99)), api.ErrArg) // ahead of ErrFull
	}
	check(t, f, appends(longest, "123456789"), api.ErrFull)
	check(t, f, appends("new", "123456789"), api.ErrFull)
	check(t, f, appends(longest, "12345678"), api.OK)
	check(t, f, appends(longest, "1"), api.ErrFull)
	check(t, f, appends(longest, ""), api.OK) // no bytes more have room always
	check(t, f, appends("new", ""), api.OK)
}

// P5.2
func TestAppendOfAFileMore(t *testing.T) {
	f := full(t)
	check(t, f, appends("g", ""), api.ErrFull)
	check(t, f, appends("g", "x"), api.ErrFull)
	check(t, f, appends("", "x"), api.ErrArg)
	check(t, f, appends("f7", "x"), api.OK)
	check(t, f, renames("f7", "g"), api.OK) // that is no file more
	check(t, f, appends("f7", ""), api.ErrFull)
	check(t, f, renames("g", "f8"), api.OK)
	check(t, f, appends("f7", "y"), api.OK)
	check(t, f, appends("g", "y"), api.ErrFull)
	check(t, f, removes("f0"), api.OK)
	check(t, f, appends("g", "y"), api.OK)
	if len(f.Names()) != api.MaxFiles || f.Size() != api.MaxFiles+1 {
		t.Error(state(f))
	}
}

// P5.2
func TestSync(t *testing.T) {
	f := made(t, 20, appends("a", "123"), appends("b", "45"), syncs("a"))
	if !slices.Equal(f.Unsynced(), []int{0, 2}) {
		t.Error(f.Unsynced())
	}
	check(t, f, syncs("a"), api.OK)
	check(t, f, syncs("c"), api.ErrNone)
	check(t, f, syncs(""), api.ErrNone)
	check(t, f, appends("a", "67"), api.OK)
	if !slices.Equal(f.Unsynced(), []int{2, 2}) {
		t.Error(f.Unsynced())
	}
	check(t, f, crashes(), api.OK)
	check(t, f, starts(), api.OK)
	checkFiles(t, f, "a", "123", "b", "")
}

// P5.2
func TestTruncate(t *testing.T) {
	for _, x := range []struct {
		n, air  int
		text    string
		platter string
	}{
		{5, 2, "abcde", "abc"},
		{4, 1, "abcd", "abc"},
		{3, 0, "abc", "abc"},
		{2, 0, "ab", "ab"},
		{0, 0, "", ""},
	} {
		f := made(t, 5, appends("f", "abc"), syncs("f"), appends("f", "de"), truncates("f", x.n))
		checkFiles(t, f, "f", x.text)
		if f.Size() != x.n || !slices.Equal(f.Unsynced(), []int{x.air}) {
			t.Errorf("%d: %s", x.n, state(f))
		}
		check(t, f, appends("f", "123456"[:5-x.n]), api.OK) // what is gone is room
		checkFiles(t, f, "f", x.text+"123456"[:5-x.n])
		check(t, f, crashes(), api.OK)
		check(t, f, starts(), api.OK)
		checkFiles(t, f, "f", x.platter)
	}
	f := made(t, 5, appends("f", "abc"))
	for _, n := range []int{-1, 4, math.MinInt, math.MaxInt} {
		check(t, f, truncates("f", n), api.ErrArg)
		check(t, f, truncates("g", n), api.ErrNone) // ahead of ErrArg
	}
	check(t, f, truncates("", 0), api.ErrNone)
}

// P5.2
func TestRename(t *testing.T) {
	f := made(t, 20, appends("a", "123"), syncs("a"), appends("a", "4"), appends("b", "xy"), renames("a", "c"))
	checkFiles(t, f, "b", "xy", "c", "1234")
	if !slices.Equal(f.Unsynced(), []int{2, 1}) {
		t.Error(f.Unsynced())
	}
	check(t, f, renames("c", "b"), api.OK) // over another one, with its own platter
	checkFiles(t, f, "b", "1234")
	if f.Size() != 4 || !slices.Equal(f.Unsynced(), []int{1}) {
		t.Error(state(f))
	}
	check(t, f, renames("b", "b"), api.OK)
	checkFiles(t, f, "b", "1234")
	longest := strings.Repeat("n", api.MaxName)
	check(t, f, renames("b", longest), api.OK)
	check(t, f, renames(longest, longest+"n"), api.ErrArg)
	check(t, f, renames(longest, ""), api.ErrArg)
	check(t, f, renames("none", ""), api.ErrNone) // ahead of ErrArg
	check(t, f, renames("", "a"), api.ErrNone)
	check(t, f, renames("none", "none"), api.ErrNone)
	checkFiles(t, f, longest, "1234")
}

// P5.2
func TestRemove(t *testing.T) {
	f := made(t, 5, appends("a", "123"), syncs("a"), appends("b", "45"), removes("a"))
	checkFiles(t, f, "b", "45")
	check(t, f, removes("a"), api.ErrNone)
	check(t, f, removes(""), api.ErrNone)
	check(t, f, appends("a", "67"), api.OK) // a new one, nothing of which is on the platter
	if !slices.Equal(f.Unsynced(), []int{2, 2}) {
		t.Error(f.Unsynced())
	}
	check(t, f, crashes(), api.OK)
	check(t, f, starts(), api.OK)
	checkFiles(t, f, "a", "", "b", "")
}

// P5.2
func TestRead(t *testing.T) {
	f := made(t, 9, appends("a", "12"), appends("b", ""))
	for _, x := range []struct {
		name, text string
		e          api.Errno
	}{{"a", "12", api.OK}, {"b", "", api.OK}, {"c", "", api.ErrNone}, {"", "", api.ErrNone}, {"A", "", api.ErrNone}} {
		if text, e := f.Read(x.name); text != x.text || e != x.e {
			t.Errorf("Read %q: %q, %d", x.name, text, e)
		}
	}
	text, _ := f.Read("a")
	check(t, f, truncates("a", 0), api.OK)
	check(t, f, appends("a", "34"), api.OK)
	if text != "12" {
		t.Errorf("%q: what was read is another text", text)
	}
}

// P5.2, P5.4, P5.5: ErrDown is ahead of all other errors but ErrNil.
func TestOff(t *testing.T) {
	f := made(t, 9, appends("a", "123"), syncs("a"), crashes())
	before := state(f)
	for _, a := range []act{
		appends("a", "x"), appends("", "x"), appends("a", "1234567890"), syncs("a"), syncs("c"), truncates("a", 0), truncates("a", -1),
		truncates("c", 0), renames("a", "b"), renames("c", "b"), renames("a", ""), removes("a"), removes("c"), crashes(), crashes(1), fails(0), fails(-1),
	} {
		check(t, f, a, api.ErrDown)
	}
	for _, name := range []string{"a", "c", ""} {
		if text, e := f.Read(name); text != "" || e != api.ErrDown {
			t.Errorf("Read %q: %q, %d", name, text, e)
		}
	}
	if after := state(f); after != before {
		t.Errorf("%s, but it was %s", after, before)
	}
	check(t, f, starts(), api.OK)
	check(t, f, syncs("a"), api.OK) // the Fail that told an error is none
	checkFiles(t, f, "a", "123")
}

// P5.3
func TestWhatIsTold(t *testing.T) {
	f := made(t, 99, appends("b", "12"), appends("B", "345"), appends("ab", "6"), appends("a", ""), appends("\xff", "7890"), appends("10", "x"), appends("9", "xy"))
	want := []string{"10", "9", "B", "a", "ab", "b", "\xff"} // by their bytes
	check(t, f, syncs("B"), api.OK)
	if !slices.Equal(f.Names(), want) || f.Size() != 13 || !slices.Equal(f.Unsynced(), []int{1, 2, 0, 0, 1, 2, 4}) || !f.Up() {
		t.Error(state(f))
	}
	check(t, f, crashes(0, 1, 9, 9, 9, 1), api.OK)
	if !slices.Equal(f.Names(), want) || f.Size() != 6 || !slices.Equal(f.Unsynced(), make([]int, 7)) || f.Up() || f.Starts() != 0 {
		t.Error(state(f))
	}
}

// P5.3, P5.4
func TestStart(t *testing.T) {
	f := made(t, 9)
	check(t, f, starts(), api.ErrArg)
	for n := range 3 {
		if f.Starts() != n || !f.Up() {
			t.Error(f.Starts(), f.Up())
		}
		check(t, f, crashes(), api.OK)
		if f.Starts() != n || f.Up() {
			t.Error(f.Starts(), f.Up())
		}
		check(t, f, starts(), api.OK)
		check(t, f, starts(), api.ErrArg)
	}
	if f.Starts() != 3 {
		t.Error(f.Starts())
	}
}

// P5.4
func TestCrash(t *testing.T) {
	for _, x := range []struct {
		keep       []int
		a, b, c, d string
	}{
		{nil, "", "12", "", "xyz"},
		{[]int{}, "", "12", "", "xyz"},
		{[]int{0, 0, 0, 0}, "", "12", "", "xyz"},
		{[]int{1, 1, 1, 1}, "p", "123", "", "xyz"},
		{[]int{2}, "pq", "12", "", "xyz"},
		{[]int{3, 2}, "pqr", "1234", "", "xyz"},
		{[]int{4, 3, 1, 1}, "pqr", "1234", "", "xyz"},
		{[]int{-1, 1}, "", "123", "", "xyz"},
		{[]int{math.MinInt, math.MaxInt}, "", "1234", "", "xyz"},
		{[]int{math.MaxInt, math.MinInt}, "pqr", "12", "", "xyz"},
		{[]int{1, 0, 5, 5, 5, 5}, "p", "12", "", "xyz"},
	} {
		f := made(t, 20, appends("d", "xyz"), syncs("d"), appends("b", "12"), syncs("b"), appends("b", "34"), appends("a", "pqr"), appends("c", ""))
		check(t, f, crashes(x.keep...), api.OK)
		if !slices.Equal(f.Unsynced(), make([]int, 4)) {
			t.Errorf("%v: %v", x.keep, f.Unsynced())
		}
		check(t, f, starts(), api.OK)
		checkFiles(t, f, "a", x.a, "b", x.b, "c", x.c, "d", x.d)
		check(t, f, crashes(), api.OK) // what stayed is on the platter
		check(t, f, starts(), api.OK)
		checkFiles(t, f, "a", x.a, "b", x.b, "c", x.c, "d", x.d)
	}
}

// P5.4: what is gone is room again, and does not come back.
func TestWhatACrashTakes(t *testing.T) {
	f := made(t, 6, appends("a", "123456"), crashes(2), starts())
	check(t, f, appends("a", "abcd"), api.OK)
	check(t, f, appends("a", "e"), api.ErrFull)
	checkFiles(t, f, "a", "12abcd")
}

// P5.5: an Append has been done by the time of the crash, all others have not.
func TestFail(t *testing.T) {
	for _, x := range []struct {
		stroke act
		keep   []int
		files  []string
	}{
		{appends("b", "56"), nil, []string{"a", "xy", "b", "12"}},
		{appends("b", "56"), []int{1, 1}, []string{"a", "xyz", "b", "123"}},
		{appends("b", "56"), []int{0, 3}, []string{"a", "xy", "b", "12345"}},
		{appends("b", "56"), []int{9, 9}, []string{"a", "xyz", "b", "123456"}},
		{appends("aa", "56"), []int{0, 1, 1}, []string{"a", "xy", "aa", "5", "b", "123"}}, // keep is by the names with the new one
		{appends("aa", "56"), nil, []string{"a", "xy", "aa", "", "b", "12"}},
		{syncs("b"), nil, []string{"a", "xy", "b", "12"}},
		{syncs("b"), []int{0, 1}, []string{"a", "xy", "b", "123"}},
		{truncates("b", 1), nil, []string{"a", "xy", "b", "12"}},
		{truncates("b", 1), []int{1, 2}, []string{"a", "xyz", "b", "1234"}},
		{renames("b", "a"), nil, []string{"a", "xy", "b", "12"}},
		{renames("b", "c"), []int{0, 9}, []string{"a", "xy", "b", "1234"}},
		{renames("a", "c"), []int{0, 9}, []string{"a", "xy", "b", "1234"}}, // keep is by the names as they stay
		{removes("b"), []int{0, 1}, []string{"a", "xy", "b", "123"}},
		{removes("a"), []int{0, 1}, []string{"a", "xy", "b", "123"}},
	} {
		for n := range 4 {
			f := made(t, 12, appends("a", "xy"), syncs("a"), appends("b", "12"), syncs("b"), appends("a", "z"), appends("b", "34"))
			check(t, f, fails(n, x.keep...), api.OK)
			for range n {
				check(t, f, renames("a", "a"), api.OK)
			}
			check(t, f, x.stroke, api.ErrDown)
			if f.Up() {
				t.Errorf("%s: it is on", x.stroke.name)
			}
			check(t, f, starts(), api.OK)
			checkFiles(t, f, x.files...)
			check(t, f, x.stroke, api.OK) // the crash has ended it
		}
	}
}

// P5.5: each stroke that is OK is counted, and nothing else.
func TestFailCountsStrokes(t *testing.T) {
	strokes := []act{appends("a", "12"), appends("b", ""), syncs("a"), truncates("a", 2), renames("a", "c"), renames("b", "b"), removes("b")}
	others := []act{appends("", "x"), appends("a", "1234567890"), syncs("n"), truncates("n", 0), truncates("c", 9), renames("n", "a"), renames("c", ""), removes("n"), fails(-1, 7), starts()}
	for n := range len(strokes) {
		f := made(t, 5, fails(n))
		for i, a := range strokes {
			for _, o := range others {
				if o.do(f) == api.OK {
					t.Errorf("%s is OK", o.name)
				}
			}
			state(f)
			want := api.OK
			if i == n {
				want = api.ErrDown
			}
			check(t, f, a, want)
			if i == n {
				break
			}
		}
		if f.Up() {
			t.Errorf("Fail of %d: it is on", n)
		}
	}
}

// P5.5
func TestFailEnds(t *testing.T) {
	f := made(t, 20, fails(0, 9), fails(1, 2), appends("a", "123"))
	check(t, f, appends("a", "4"), api.ErrDown) // the second one's number and keep
	check(t, f, starts(), api.OK)
	checkFiles(t, f, "a", "12")

	f = made(t, 20, fails(0, 9), crashes(), starts(), appends("a", "123"), appends("a", "456")) // a crash ends it
	checkFiles(t, f, "a", "123456")

	f = made(t, 20, fails(2, 9), appends("a", "12"), fails(1), appends("a", "34")) // the strokes ahead don't count
	check(t, f, appends("a", "56"), api.ErrDown)
	check(t, f, starts(), api.OK)
	checkFiles(t, f, "a", "")

	f = made(t, 20, fails(0, 1))
	check(t, f, fails(-1), api.ErrArg)
	check(t, f, fails(math.MinInt, 2), api.ErrArg) // an error changes nothing: the one ahead stays
	check(t, f, appends("a", "123"), api.ErrDown)
	check(t, f, starts(), api.OK)
	checkFiles(t, f, "a", "1")

	f = made(t, 20, fails(math.MaxInt, 9))
	for range 1000 {
		check(t, f, appends("a", ""), api.OK)
	}
}

// P5.6: what is on the platter stays, whatever is kept, and of all else a beginning.
func TestWhatIsOnThePlatterStays(t *testing.T) {
	row := []struct {
		act
		had string // of the file a, by then
	}{
		{appends("a", "56"), "123456"},
		{appends("b", "x"), "123456"},
		{renames("b", "c"), "123456"},
		{appends("a", "78"), "12345678"},
		{removes("c"), "12345678"},
	}
	for kept := -1; kept <= 7; kept++ {
		for n, last := range row {
			f := made(t, 30, appends("a", "12"), syncs("a"), appends("a", "34"), fails(n, kept, kept, kept))
			for _, x := range row[:n] {
				check(t, f, x.act, api.OK)
			}
			check(t, f, last.act, api.ErrDown)
			check(t, f, starts(), api.OK)
			want := last.had[:min(len(last.had), 2+max(kept, 0))]
			if text, e := f.Read("a"); text != want || e != api.OK {
				t.Errorf("Fail of %d, %d kept: %q, %d, not %q", n, kept, text, e, want)
			}
		}
	}
}

// P5.6: a file of a name, over which another one was renamed, is the old one or the new one.
func TestRenamedOver(t *testing.T) {
	for kept := -1; kept <= 4; kept++ {
		for n := range 5 {
			f := made(t, 30, appends("a", "old"), syncs("a"), fails(n, kept, kept))
			for _, a := range []act{appends("b", "new"), syncs("b"), renames("b", "a"), syncs("a"), crashes(kept, kept)} {
				if a.do(f) == api.ErrDown {
					break
				}
			}
			check(t, f, starts(), api.OK)
			want := "old"
			if n > 2 {
				want = "new"
			}
			if text, e := f.Read("a"); text != want || e != api.OK {
				t.Errorf("Fail of %d, %d kept: %q, %d, not %q", n, kept, text, e, want)
			}
		}
	}
}

// R4
func TestListsAreOfTheirOwn(t *testing.T) {
	f := made(t, 20, appends("a", "123"), appends("b", "45"))
	clear(f.Names())
	clear(f.Unsynced())
	if !slices.Equal(f.Names(), []string{"a", "b"}) || !slices.Equal(f.Unsynced(), []int{3, 2}) {
		t.Error(state(f))
	}
	keep := []int{2, 1, 0}
	if e := f.Fail(0, keep); e != api.OK {
		t.Error(e)
	}
	clear(keep)
	check(t, f, syncs("a"), api.ErrDown)
	check(t, f, starts(), api.OK)
	checkFiles(t, f, "a", "12", "b", "4")
	keep = []int{5, -3}
	check(t, f, appends("a", "x"), api.OK)
	if e := f.Crash(keep); e != api.OK || !slices.Equal(keep, []int{5, -3}) {
		t.Error(e, keep)
	}
}

// P5.5: keep speaks of each of as many files as there may be, and of no more.
func TestFailOfAllFiles(t *testing.T) {
	keep := make([]int, 40)
	keep[31] = 1
	f := full(t)
	check(t, f, fails(0, keep...), api.OK)
	check(t, f, syncs("f0"), api.ErrDown)
	check(t, f, starts(), api.OK)
	last := f.Names()[31]
	if text, e := f.Read(last); f.Size() != 1 || text != "x" || e != api.OK {
		t.Error(state(f))
	}
}
