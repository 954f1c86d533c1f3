package saves

import (
	"fmt"
	"maps"
	"slices"
	"strings"
	"testing"

	"inkhorn/api"
	"inkhorn/files"
)

// P6.3: a Write that the power fails in, at each of its strokes, with each beginning kept of what was in the air.
func TestCrashesAmidWrite(t *testing.T) {
	for _, old := range []string{"none", "", "o", "old"} {
		for _, text := range []string{"", "n", "newer"} {
			for _, draft := range []string{"none", "", "left"} {
				for n := range 5 {
					for kept := range 7 {
						checkCrashAmidWrite(t, old, text, draft, n, kept-1)
					}
				}
			}
		}
	}
}

// checkCrashAmidWrite tells where the file is neither the old one nor the new one, or something else is not as promised; none is no file.
func checkCrashAmidWrite(t *testing.T, old, text, draft string, n, kept int) {
	t.Helper()
	var has []string
	for _, x := range []struct{ name, text string }{{"a", old}, {"b", "other"}, {"~", draft}} {
		if x.text != "none" {
			has = append(has, x.name, x.text)
		}
	}
	f := made(t, 30, has...)
	checkErr(t, "Fail", f.Fail(n, []int{kept, kept, kept}), api.OK)
	e := Write(f, "a", text)
	// What comes behind a Write that was OK leaves it, too.
	if e == api.OK {
		checkErr(t, "Crash", f.Crash(nil), api.OK)
	}
	checkErr(t, "Start", f.Start(), api.OK)
	name := fmt.Sprintf("%q over %q, with a draft %q, Fail of %d, %d kept: %d", text, old, draft, n, kept, e)
	got, g := Load(f, "a")
	isNew := got == text && g == api.OK
	isOld := got == old && g == api.OK || old == "none" && g == api.ErrNone
	if e == api.OK && !isNew || e == api.ErrDown && !isNew && !isOld || e != api.OK && e != api.ErrDown {
		t.Errorf("%s: %q, %d", name, got, g)
	}
	checkLoad(t, f, "b", "other", api.OK)
	check(t, f, cleans(), api.OK)
	if slices.Contains(f.Names(), "~") {
		t.Errorf("%s: there is a draft", name)
	}
	check(t, f, writes("a", text), api.OK)
	checkFiles(t, f, "a", text, "b", "other")
}

// texts is what P6.3 promises of the files but for the draft: of each name its text.
type texts map[string]string

// drawn draws numbers, each of which hangs on the one ahead.
type drawn uint64

func (d *drawn) below(n int) int {
	*d = *d*6364136223846793005 + 1442695040888963407
	return int(*d>>33) % n
}

func (d *drawn) keep() []int {
	l := make([]int, d.below(6))
	for i := range l {
		l[i] = d.below(12) - 2
	}
	return l
}

// write writes, and goes by what P6.3 says of its answer.
func (x texts) write(t *testing.T, f *files.FS, name, text string) {
	t.Helper()
	c := writes(name, text)
	e := c.do(f)
	switch {
	case name == "" || name == "~":
		checkErr(t, c.name, e, api.ErrArg)
	case e == api.OK:
		x[name] = text
	case e == api.ErrDown:
		// Old or new: both are as promised, and no third text is.
		checkErr(t, "Start", f.Start(), api.OK)
		if got, g := Load(f, name); g == api.OK && got == text {
			x[name] = text
		}
	default:
		checkErr(t, c.name, e, api.ErrFull)
	}
}

// check tells where the files are not these texts and perhaps a draft.
func (x texts) check(t *testing.T, f *files.FS) {
	t.Helper()
	for name, want := range x {
		checkLoad(t, f, name, want, api.OK)
	}
	got := slices.DeleteFunc(f.Names(), func(name string) bool { return name == "~" })
	if want := slices.Sorted(maps.Keys(x)); !slices.Equal(got, want) {
		t.Errorf("%q, not %q", got, want)
	}
}

// P6.3: what long rows of calls and crashes lead to.
func TestLongRowsOfCalls(t *testing.T) {
	for seed := range 300 {
		d := drawn(seed)
		f := made(t, 10+d.below(60))
		x := texts{}
		for range 200 {
			switch d.below(8) {
			case 0:
				checkErr(t, "Fail", f.Fail(d.below(9), d.keep()), api.OK)
			case 1:
				checkErr(t, "Crash", f.Crash(d.keep()), api.OK)
				checkErr(t, "Start", f.Start(), api.OK)
			case 2:
				if e := Clean(f); e != api.OK {
					checkErr(t, "Clean", e, api.ErrDown)
					checkErr(t, "Start", f.Start(), api.OK)
				} else if slices.Contains(f.Names(), "~") {
					t.Error("there is a draft")
				}
			default:
				name := []string{"a", "b", "log", "~a", strings.Repeat("n", api.MaxName), "", "~"}[d.below(7)]
				x.write(t, f, name, strings.Repeat("pq\n", d.below(5))+"uvwxyz"[d.below(6):])
			}
			x.check(t, f)
			if t.Failed() {
				t.Fatalf("seed %d", seed)
			}
		}
	}
}
