package disk

import (
	"fmt"
	"slices"
	"strconv"
	"strings"
	"testing"

	"inkhorn/api"
	"inkhorn/lines"
	"inkhorn/samples"
)

// P24.3: a w, or a W, that the power fails in, at each of its strokes, with each beginning kept of what was in the air.
func TestCrashesAmidWrite(t *testing.T) {
	for _, line := range []string{"w", "1w", "W", "2W", "w f", "W f"} {
		for _, name := range []string{"f", "g", ""} {
			if name != "f" && len(line) < 3 {
				continue
			}
			for _, old := range []string{"none", "", "o", "old\n"} {
				for _, draft := range []string{"none", "", "left"} {
					for n := range 6 {
						for kept := range 7 {
							checkCrashAmidWrite(t, line, name, old, draft, n, kept-1)
						}
					}
				}
			}
		}
	}
}

// written is what the file f is to be behind a command with the lines a and bb; none is no file.
func written(line, old string) string {
	text := "a\nbb\n"
	switch line[0] {
	case '1':
		text = "a\n"
	case '2':
		text = "bb\n"
	}
	if strings.Contains(line, "W") && old != "none" {
		return old + text
	}
	return text
}

// checkCrashAmidWrite tells where the file f is neither as it was nor as it was to be, or something else is not as promised; none is no file.
func checkCrashAmidWrite(t *testing.T, line, name, old, draft string, n, kept int) {
	t.Helper()
	has := []string{"b", "other"}
	if old != "none" {
		has = append(has, "f", old)
	}
	if draft != "none" {
		has = append(has, "~", draft)
	}
	c, f := dirty(t, "a", "bb"), made(t, 100, has...)
	ahead := standOf(c)
	if e := f.Fail(n, []int{kept, kept, kept}); e != api.OK {
		t.Fatal(e)
	}
	r, e := Run(c, f, name, read(t, line), false)
	told := fmt.Sprintf("%s, %q over %q, with a draft %q, Fail of %d, %d kept: %v", line, name, old, draft, n, kept, e)
	switch e {
	case api.OK:
		// What comes behind a w that was OK leaves it, too.
		if f.Crash(nil) != api.OK {
			t.Fatal(told)
		}
	case api.ErrDown:
		checkNothing(t, r)
		if !ahead.same(standOf(c)) {
			t.Fatal(told)
		}
	default:
		t.Fatal(told)
	}
	f.Start()
	want := written(line, old)
	got := filesOf(t, f)
	isNew := slices.Equal(got, []string{"b", "other", "f", want})
	isOld := slices.Equal(got, []string{"b", "other", "f", old}) || old == "none" && len(got) == 2
	if !isNew && (!isOld || e == api.OK) {
		t.Fatalf("%s: %q", told, got)
	}
	now := "none"
	if len(got) > 2 {
		now = got[3]
	}
	if _, e := Run(c, f, name, read(t, line), false); e != api.OK {
		t.Fatalf("%s: then %v", told, e)
	}
	checkFiles(t, f, "b", "other", "f", written(line, now))
}

// P24.3, P0.4: where there is no room, to the byte, the file is as it was, and the buffer still changed.
func TestNoRoom(t *testing.T) {
	for _, line := range []string{"w", "1w", "W", "2W", "w f", "W f"} {
		for _, name := range []string{"f", "g", ""} {
			if name != "f" && len(line) < 3 {
				continue
			}
			for _, old := range []string{"none", "", "o", "old\n"} {
				for size := 9; size < 40; size++ {
					checkRoom(t, line, name, old, size)
				}
			}
		}
	}
}

func checkRoom(t *testing.T, line, name, old string, size int) {
	t.Helper()
	has := []string{"b", "other"}
	if old != "none" {
		has = append(has, "f", old)
	}
	c, f := dirty(t, "a", "bb"), made(t, size, has...)
	want := written(line, old)
	_, e := do(t, c, f, name, read(t, line), false)
	if f.Size() > size {
		t.Fatal(line, size)
	}
	need := len("other") + len(want)
	if old != "none" {
		need += len(old)
	}
	if need > size {
		if e != api.ErrFull || !c.Dirty() {
			t.Errorf("%s, %q over %q in %d: %v", line, name, old, size, e)
		}
		checkFiles(t, f, has...)
		return
	}
	if e != api.OK {
		t.Errorf("%s, %q over %q in %d: %v", line, name, old, size, e)
	}
	checkFiles(t, f, "b", "other", "f", want)
}

// P24.3: the draft is a file more.
func TestNoRoomForAFile(t *testing.T) {
	f := made(t, 1000)
	for i := range api.MaxFiles {
		f.Append("f"+strconv.Itoa(i), "x")
	}
	c := dirty(t, "a")
	for _, line := range []string{"w f1", "W f1", "w new", "W new", "1w f1"} {
		checkErr(t, c, f, "", line, api.ErrFull)
	}
	f.Remove("f2")
	checkDone(t, c, f, "", "w f1", Result{Out: "2\n", Name: "f1", Wrote: true})
	checkDone(t, c, f, "", "w new", Result{Out: "2\n", Name: "new", Wrote: true})
	checkErr(t, c, f, "", "w f1", api.ErrFull)
}

// P24.3: what was written, and is read by e, is the same lines.
func TestRound(t *testing.T) {
	all := samples.Lists([]string{"", "a", "\x00", "\r", " ~ ", strings.Repeat("x", 1000)}, 3)
	all = append(all, many(2000, ""), many(2000, strings.Repeat("y", 500)), append(many(1999, "\xff"), ""))
	for _, l := range all {
		for _, line := range []string{"w f", "%w f", "W f"} {
			if line[0] == '%' && len(l) == 0 {
				continue
			}
			f := made(t, api.MaxDisk)
			c := buffer(t, l...)
			size := len(lines.Join(l))
			checkDone(t, c, f, "", line, Result{Out: fmt.Sprintln(size), Name: "f", Wrote: line[0] != 'W'})
			if f.Crash(nil) != api.OK || f.Start() != api.OK {
				t.Fatal("crash")
			}
			r := checkDone(t, c, f, "f", "e", Result{Out: fmt.Sprintln(size), Name: "f", Anew: true})
			checkLines(t, r.Core, len(l), l...)
			c = buffer(t)
			checkDone(t, c, f, "f", "r", Result{Out: fmt.Sprintln(size), Name: "f"})
			checkLines(t, c, len(l), l...)
		}
	}
}

// P24.3: parts of a buffer that are written one behind the other are read as all of it.
func TestRoundOfParts(t *testing.T) {
	l := []string{"a", "", "bb", "\xff", "c"}
	for i := 1; i < len(l); i++ {
		f := made(t, 100)
		c := buffer(t, l...)
		name := ""
		for _, line := range []string{fmt.Sprintf("1,%dw f", i), fmt.Sprintf("%d,$W f", i+1)} {
			r, e := do(t, c, f, name, read(t, line), false)
			if e != api.OK {
				t.Fatal(line, e)
			}
			name = r.Name
		}
		r := checkDone(t, c, f, name, "e", Result{Out: "10\n", Name: "f", Anew: true})
		checkLines(t, r.Core, 5, l...)
	}
}
