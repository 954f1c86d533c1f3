package saves

import (
	"fmt"
	"slices"
	"strconv"
	"strings"
	"testing"

	"inkhorn/api"
	"inkhorn/files"
	"inkhorn/samples"
)

// made is a new file system with some files, none of whose bytes are in the air: a name, and the bytes behind it, and so on.
func made(t *testing.T, limit int, has ...string) *files.FS {
	t.Helper()
	f, e := files.New(limit)
	checkErr(t, "New", e, api.OK)
	for i := 0; i < len(has); i += 2 {
		checkErr(t, "Append", f.Append(has[i], has[i+1]), api.OK)
		checkErr(t, "Sync", f.Sync(has[i]), api.OK)
	}
	return f
}

func checkErr(t *testing.T, name string, got, want api.Errno) {
	t.Helper()
	if got != want {
		t.Errorf("%s: %d, not %d", name, got, want)
	}
}

// checkLoad tells where a Load answers something else.
func checkLoad(t *testing.T, f *files.FS, name, want string, e api.Errno) {
	t.Helper()
	if got, g := Load(f, name); got != want || g != e {
		t.Errorf("Load %q: %q, %d, not %q, %d", name, got, g, want, e)
	}
}

// checkFiles tells where the files, whosever they are, are others than these: a name, and the bytes behind it, and so on.
func checkFiles(t *testing.T, f *files.FS, want ...string) {
	t.Helper()
	var got []string
	for _, name := range f.Names() {
		text, e := f.Read(name)
		checkErr(t, fmt.Sprintf("Read %q", name), e, api.OK)
		got = append(got, name, text)
	}
	if !slices.Equal(got, want) {
		t.Errorf("%q, not %q", got, want)
	}
}

// state is all that a file system tells of itself.
func state(f *files.FS) string {
	var b strings.Builder
	fmt.Fprint(&b, f.Up(), f.Starts(), f.Size(), f.Unsynced())
	for _, name := range f.Names() {
		text, e := f.Read(name)
		fmt.Fprintf(&b, " %q: %q %d", name, text, e)
	}
	return b.String()
}

// strokesLeft counts the strokes up to a crash that is due, by strokes that change nothing. The crash comes, if there is one.
func strokesLeft(t *testing.T, f *files.FS) int {
	t.Helper()
	name := f.Names()[0]
	for n := range 100 {
		if e := f.Rename(name, name); e != api.OK {
			return n
		}
	}
	return -1
}

// called is a call of this package, with its name.
type called struct {
	name string
	do   func(f *files.FS) api.Errno
}

func writes(name, text string) called {
	return called{fmt.Sprintf("Write %q %q", name, text), func(f *files.FS) api.Errno { return Write(f, name, text) }}
}

// loads answers no error that there is, where something is told beside an error.
func loads(name string) called {
	return called{fmt.Sprintf("Load %q", name), func(f *files.FS) api.Errno {
		text, e := Load(f, name)
		if e != api.OK && text != "" {
			return -1
		}
		return e
	}}
}

func cleans() called {
	return called{"Clean", Clean}
}

// check tells where a call answers something else.
func check(t *testing.T, f *files.FS, c called, want api.Errno) {
	t.Helper()
	checkErr(t, c.name, c.do(f), want)
}

// The names that no text has.
var wrongNames = []string{"", "~", strings.Repeat("n", api.MaxName+1), strings.Repeat("~", 300), strings.Repeat("\u00e9", 9)}

// Names that are near to wrong ones, and none.
var oddNames = []string{strings.Repeat("n", api.MaxName), "~~", "~a", "a~", "log", "log+", "\x00", "\n", " ", "\xff", strings.Repeat("\u00e9", 8), "}"}

// The document's examples.
func TestExamples(t *testing.T) {
	f := made(t, 10)
	check(t, f, writes("a", "123456"), api.OK)
	checkLoad(t, f, "a", "123456", api.OK)
	check(t, f, writes("a", "12345"), api.ErrFull)
	checkLoad(t, f, "a", "123456", api.OK)
	if got := f.Names(); !slices.Equal(got, []string{"a"}) {
		t.Errorf("%q", got)
	}
	check(t, f, writes("~", ""), api.ErrArg)
	checkLoad(t, f, "b", "", api.ErrNone)
}

// R1, R3: ErrNil is ahead of all other errors.
func TestNone(t *testing.T) {
	for _, f := range []*files.FS{nil, {}, new(files.FS)} {
		for _, name := range append([]string{"a"}, wrongNames...) {
			for _, c := range []called{writes(name, "x"), writes(name, ""), loads(name), cleans()} {
				check(t, f, c, api.ErrNil)
			}
		}
	}
}

// ErrDown is ahead of all errors but ErrNil, and nothing is changed.
func TestOff(t *testing.T) {
	for _, has := range [][]string{{"a", "123"}, {"a", "123", "~", "x"}, {}} {
		f := made(t, 10, has...)
		checkErr(t, "Crash", f.Crash(nil), api.OK)
		before := state(f)
		for _, name := range append([]string{"a", "b"}, wrongNames...) {
			for _, c := range []called{writes(name, "x"), writes(name, "12345678901"), loads(name), cleans()} {
				check(t, f, c, api.ErrDown)
			}
		}
		if after := state(f); after != before {
			t.Errorf("%s, but it was %s", after, before)
		}
		checkErr(t, "Start", f.Start(), api.OK)
		checkFiles(t, f, has...)
	}
}

// P6.1, P6.2: what answers ErrArg does nothing: no draft goes, and no stroke is counted.
func TestWrongNames(t *testing.T) {
	for _, name := range wrongNames {
		f := made(t, 10, "a", "123", "~", "4567")
		checkErr(t, "Fail", f.Fail(2, nil), api.OK)
		for _, c := range []called{writes(name, "x"), writes(name, ""), writes(name, "12345678901"), loads(name)} {
			check(t, f, c, api.ErrArg)
		}
		checkFiles(t, f, "a", "123", "~", "4567")
		if n := strokesLeft(t, f); n != 2 {
			t.Errorf("%q: %d strokes are left, not 2", name, n)
		}
	}
}

// P6.1, P6.2
func TestOddNames(t *testing.T) {
	f := made(t, 1000)
	for i, name := range oddNames {
		checkLoad(t, f, name, "", api.ErrNone)
		check(t, f, writes(name, strconv.Itoa(i)), api.OK)
	}
	for i, name := range oddNames {
		checkLoad(t, f, name, strconv.Itoa(i), api.OK)
	}
	if got, want := f.Names(), slices.Sorted(slices.Values(oddNames)); !slices.Equal(got, want) {
		t.Errorf("%q, not %q", got, want)
	}
}

// P6.1: any bytes are a text, the old file's are gone, and all of the new file's are on the platter.
func TestWrite(t *testing.T) {
	f := made(t, 1000, "b", "other")
	texts := append(samples.Texts("a\n\x00\xff~", 3), strings.Repeat("long\r\n", 100), "")
	for _, text := range texts {
		check(t, f, writes("a", text), api.OK)
		checkLoad(t, f, "a", text, api.OK)
		checkFiles(t, f, "a", text, "b", "other")
		if !slices.Equal(f.Unsynced(), []int{0, 0}) {
			t.Errorf("%q: %v are in the air", text, f.Unsynced())
		}
	}
}

// P6.1: whatever a draft had, it goes, and be it in the air; nothing of it is in the file.
func TestWriteWithADraft(t *testing.T) {
	for _, air := range []string{"", "in the air"} {
		f := made(t, 30, "a", "old", "~", "draft")
		checkErr(t, "Append", f.Append("~", air), api.OK)
		check(t, f, writes("a", "new"), api.OK)
		checkFiles(t, f, "a", "new")
	}
}

// P6.1: a file that has bytes in the air is another one's place as well.
func TestWriteOverBytesInTheAir(t *testing.T) {
	f := made(t, 30, "a", "old")
	checkErr(t, "Append", f.Append("a", "er"), api.OK)
	check(t, f, writes("a", "new"), api.OK)
	checkErr(t, "Crash", f.Crash(nil), api.OK)
	checkErr(t, "Start", f.Start(), api.OK)
	checkFiles(t, f, "a", "new")
}

// P6.1: the old file has its room till the new one is whole; a draft that is there has given its room up by then.
func TestWriteWhereThereIsNoRoom(t *testing.T) {
	for _, x := range []struct {
		has  []string
		text string
		e    api.Errno
		want []string
	}{
		{[]string{"a", "123456"}, "1234", api.OK, []string{"a", "1234"}},
		{[]string{"a", "123456"}, "12345", api.ErrFull, []string{"a", "123456"}},
		{[]string{"a", "123456", "~", "7890"}, "abcd", api.OK, []string{"a", "abcd"}},
		{[]string{"a", "123456", "~", "7890"}, "abcde", api.ErrFull, []string{"a", "123456"}},
		{[]string{"b", "123456", "~", "7"}, "abcde", api.ErrFull, []string{"b", "123456"}},
		{[]string{"b", "1234567890"}, "x", api.ErrFull, []string{"b", "1234567890"}},
		{[]string{"b", "1234567890"}, "", api.OK, []string{"a", "", "b", "1234567890"}},
		{[]string{"a", "1234567890"}, "", api.OK, []string{"a", ""}},
		{nil, "1234567890", api.OK, []string{"a", "1234567890"}},
		{nil, "12345678901", api.ErrFull, nil},
		{[]string{"~", "1234567890"}, "12345678901", api.ErrFull, nil},
	} {
		f := made(t, 10, x.has...)
		checkErr(t, fmt.Sprintf("%q: Write %q", x.has, x.text), Write(f, "a", x.text), x.e)
		checkFiles(t, f, x.want...)
	}
}

// P6.1: the draft is a file more, and be it for a text that takes the place of another one.
func TestWriteAmongAsManyFilesAsMayBe(t *testing.T) {
	f := made(t, 1000)
	for i := range api.MaxFiles - 1 {
		check(t, f, writes("f"+strconv.Itoa(i), "x"), api.OK)
	}
	check(t, f, writes("f0", "y"), api.OK)
	checkErr(t, "Append ~", f.Append("~", "draft"), api.OK)
	check(t, f, writes("f0", "z"), api.OK)
	check(t, f, writes("g", "x"), api.OK)
	before := state(f)
	check(t, f, writes("f0", "q"), api.ErrFull)
	check(t, f, writes("h", ""), api.ErrFull)
	if after := state(f); after != before {
		t.Errorf("%s, but it was %s", after, before)
	}
	checkErr(t, "Remove g", f.Remove("g"), api.OK)
	check(t, f, writes("f0", "q"), api.OK)
	checkLoad(t, f, "f0", "q", api.OK)
}

// P6.1: each stroke has its place, so that a crash with the n-th one leaves just what the document's strokes have left by then.
func TestWriteIsStrokeByStroke(t *testing.T) {
	strokes := []func(f *files.FS) api.Errno{
		func(f *files.FS) api.Errno { return f.Append("~", "new") },
		func(f *files.FS) api.Errno { return f.Sync("~") },
		func(f *files.FS) api.Errno { return f.Rename("~", "a") },
	}
	removes := func(f *files.FS) api.Errno { return f.Remove("~") }
	for _, has := range [][]string{{}, {"a", "old"}, {"b", "other"}, {"a", "old", "~", "draft"}, {"b", "other", "~", ""}} {
		all := strokes
		if slices.Contains(has, "~") {
			all = append([]func(f *files.FS) api.Errno{removes}, strokes...)
		}
		for n := range 6 {
			for _, kept := range []int{-1, 0, 1, 2, 3, 9} {
				f, g := made(t, 30, has...), made(t, 30, has...)
				keep := []int{kept, kept, kept}
				for _, x := range []*files.FS{f, g} {
					checkErr(t, "Append b", x.Append("b", "air"), api.OK)
					checkErr(t, "Fail", x.Fail(n, keep), api.OK)
				}
				want := api.OK
				for i := 0; i < len(all) && want == api.OK; i++ {
					want = all[i](g)
				}
				name := fmt.Sprintf("%q: Fail of %d, %d kept", has, n, kept)
				checkErr(t, name, Write(f, "a", "new"), want)
				if f.Up() != (n >= len(all)) {
					t.Errorf("%s: up is %t", name, f.Up())
				}
				for _, x := range []*files.FS{f, g} {
					x.Start()
				}
				if got, want := state(f), state(g); got != want {
					t.Errorf("%s: %s, not %s", name, got, want)
				}
				if got, want := strokesLeft(t, f), strokesLeft(t, g); got != want {
					t.Errorf("%s: %d strokes are left, not %d", name, got, want)
				}
			}
		}
	}
}

// P6.2: a file's bytes are loaded, whether they are on the platter or in the air; that is no stroke.
func TestLoad(t *testing.T) {
	f := made(t, 30, "a", "12", "~", "draft")
	checkErr(t, "Append a", f.Append("a", "\n\x00\xff"), api.OK)
	checkErr(t, "Append b", f.Append("b", ""), api.OK)
	checkErr(t, "Fail", f.Fail(3, nil), api.OK)
	before := state(f)
	checkLoad(t, f, "a", "12\n\x00\xff", api.OK)
	checkLoad(t, f, "b", "", api.OK)
	for _, name := range append([]string{"c", "A", "aa"}, oddNames...) {
		checkLoad(t, f, name, "", api.ErrNone)
	}
	for _, name := range wrongNames {
		checkLoad(t, f, name, "", api.ErrArg)
	}
	if after := state(f); after != before {
		t.Errorf("%s, but it was %s", after, before)
	}
	if n := strokesLeft(t, f); n != 3 {
		t.Errorf("%d strokes are left, not 3", n)
	}
}

// P6.2
func TestClean(t *testing.T) {
	f := made(t, 30, "a", "old", "~", "draft", "~~", "other")
	checkErr(t, "Append a", f.Append("a", "er"), api.OK)
	checkErr(t, "Append ~", f.Append("~", "in the air"), api.OK)
	for range 3 {
		check(t, f, cleans(), api.OK)
		checkFiles(t, f, "a", "older", "~~", "other")
	}
	if !slices.Equal(f.Unsynced(), []int{2, 0}) {
		t.Error(f.Unsynced())
	}
	g := made(t, 30)
	check(t, g, cleans(), api.OK)
	checkFiles(t, g)
}

// P6.2: a draft that goes is a stroke; where there is none, there is no stroke.
func TestCleanIsAStrokeOrNone(t *testing.T) {
	f := made(t, 30, "a", "old", "~", "draft")
	checkErr(t, "Fail", f.Fail(0, nil), api.OK)
	check(t, f, cleans(), api.ErrDown)
	check(t, f, cleans(), api.ErrDown)
	checkErr(t, "Start", f.Start(), api.OK)
	checkFiles(t, f, "a", "old", "~", "draft")

	checkErr(t, "Fail", f.Fail(1, nil), api.OK)
	for range 3 {
		check(t, f, cleans(), api.OK)
	}
	checkFiles(t, f, "a", "old")
	if n := strokesLeft(t, f); n != 0 {
		t.Errorf("%d strokes are left, not 0", n)
	}
}

// R2: two file systems know nothing of one another, and what is loaded stays what it was.
func TestFileSystemsAreOfTheirOwn(t *testing.T) {
	f, g := made(t, 30), made(t, 30)
	check(t, f, writes("a", "1"), api.OK)
	checkLoad(t, g, "a", "", api.ErrNone)
	text, _ := Load(f, "a")
	check(t, f, writes("a", "2"), api.OK)
	checkErr(t, "Append", f.Append("a", "3"), api.OK)
	if text != "1" {
		t.Errorf("%q: what was loaded is another text", text)
	}
}
