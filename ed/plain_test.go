package ed

import (
	"fmt"
	"slices"
	"strings"
	"testing"

	"inkhorn/api"
	"inkhorn/cmds"
	"inkhorn/core"
	"inkhorn/disk"
	"inkhorn/files"
	"inkhorn/runs"
	"inkhorn/samples"
)

// row is a line that was taken, and what it was: "text" (a line of it), "asks" (for text), "helps", "told" (an error), "done", or "no" (as the editor has ended).
type row struct {
	line, was string
	e         api.Errno
}

// plain is an editor by the chapter's words, with a buffer and files of its own. What it knows of what came before it finds among the rows.
type plain struct {
	c    *core.Core
	f    *files.FS
	name string
	loud bool
	rows []row
	end  bool
	turn bool
}

// asked is the command for which text is being taken, and the text; false: none is.
func (p *plain) asked() (x api.Cmd, text []string, ok bool) {
	n := len(p.rows)
	for n > 0 && p.rows[n-1].was == "text" {
		n--
	}
	if n == 0 || p.rows[n-1].was != "asks" {
		return api.Cmd{}, nil, false
	}
	x, _ = cmds.Parse(p.rows[n-1].line)
	for _, r := range p.rows[n:] {
		text = append(text, r.line)
	}
	return x, text, true
}

// last is the error that was told last.
func (p *plain) last() api.Errno {
	for _, r := range slices.Backward(p.rows) {
		if r.was == "told" {
			return r.e
		}
	}
	return api.OK
}

// warned tells whether a warning was told, and nothing was done since.
func (p *plain) warned() bool {
	for _, r := range slices.Backward(p.rows) {
		if r.was == "told" || r.was == "done" {
			return r.e == api.ErrDirty
		}
	}
	return false
}

// words is how an error is told.
func (p *plain) words(e api.Errno) string {
	switch {
	case !p.loud:
		return "?\n"
	case words[e] == "":
		return "error\n"
	}
	return words[e] + "\n"
}

// step takes a line.
func (p *plain) step(line string) (out string, l []api.Splice, e api.Errno) {
	was, out, l, e := p.take(line)
	if was == "done" && e != api.OK {
		was, out, l = "told", p.words(e), nil
	}
	p.rows = append(p.rows, row{line, was, e})
	return out, l, e
}

func (p *plain) take(line string) (was, out string, l []api.Splice, e api.Errno) {
	if p.end {
		return "no", "", nil, api.ErrMode
	}
	p.turn = false
	x, text, taking := p.asked()
	if taking && line != "." {
		return "text", "", nil, api.OK
	}
	if !taking {
		x, e = cmds.Parse(line)
		switch {
		case e != api.OK:
			return "done", "", nil, e
		case x.Name == 'h' && len(x.Range.List) > 0:
			return "done", "", nil, api.ErrAddress
		case x.Name == 'h' && p.last() == api.OK:
			return "helps", "", nil, api.OK
		case x.Name == 'h':
			return "helps", (&plain{loud: true}).words(p.last()), nil, api.OK
		case slices.Contains([]byte("aic"), x.Name):
			return "asks", "", nil, api.OK
		}
	}
	if !slices.Contains([]byte("eEfrwWqQ"), x.Name) {
		out, l, e := runs.Run(p.c, x, text)
		return "done", out, l, e
	}
	r, e := disk.Run(p.c, p.f, p.name, x, p.warned())
	if e == api.OK {
		p.c, p.name, p.end, p.turn = r.Core, r.Name, r.End, r.Wrote || r.Anew
	}
	return "done", r.Out, r.Change, e
}

// world is an editor and a plain one, to which the same is done.
type world struct {
	t *testing.T
	d *Ed
	f *files.FS
	p *plain
}

func newWorld(t *testing.T, size int, name string, loud bool, l []string, has ...string) *world {
	t.Helper()
	c, e := core.New(l)
	if e != api.OK {
		t.Fatal(e)
	}
	f := made(t, size, has...)
	return &world{t: t, d: editor(t, f, name, loud, l...), f: f, p: &plain{c: c, f: made(t, size, has...), name: name, loud: loud}}
}

// step hands a line to both, and tells where they are not the same.
func (w *world) step(line string) api.Errno {
	w.t.Helper()
	out, l, e := step(w.t, w.d, line)
	out2, l2, e2 := w.p.step(line)
	if out != out2 || e != e2 || fmt.Sprint(l) != fmt.Sprint(l2) {
		w.t.Fatalf("%s: %.200q %v %.200v, not %.200q %v %.200v", w.told(), out, e, l, out2, e2, l2)
	}
	w.check()
	return e
}

// check tells where both are not the same.
func (w *world) check() {
	w.t.Helper()
	now, want := standOf(w.d.Core()), standOf(w.p.c)
	_, _, text := w.p.asked()
	if !now.same(want) || now.last != want.last || w.d.Name() != w.p.name || w.d.Ended() != w.p.end || w.d.Text() != text || w.d.Turned() != w.p.turn {
		w.t.Fatalf("%s: %.300v %q %t %t %t, not %.300v %q %t %t %t", w.told(), now, w.d.Name(), w.d.Ended(), w.d.Text(), w.d.Turned(), want, w.p.name, w.p.end, text, w.p.turn)
	}
	if w.f.Up() != w.p.f.Up() || w.f.Up() && !slices.Equal(filesOf(w.t, w.f), filesOf(w.t, w.p.f)) {
		w.t.Fatalf("%s: other files", w.told())
	}
}

// told is the last lines that were taken.
func (w *world) told() string {
	return fmt.Sprintf("%.2000v", w.p.rows[max(0, len(w.p.rows)-12):])
}

// P25.1 to P25.4: all short rows of some lines.
func TestAllShortRows(t *testing.T) {
	some := []string{"q", "h", "1h", "a", ".", "x", "w", "e f", "3p", "1d", "p", "u", "W g"}
	for i, rows := range samples.Lists(some, 4) {
		if len(rows) < 4 {
			continue // These are how longer ones begin.
		}
		w := newWorld(t, 100, []string{"", "f"}[i%2], i%3 == 0, []string{"l", "m"}, "f", "y\n")
		for _, line := range rows {
			w.step(line)
		}
	}
}

// P25.2: of what warnings and texts hang on, all rows that are longer.
func TestAllRowsOfFew(t *testing.T) {
	for i, rows := range samples.Lists([]string{"q", "h", "a", ".", "e g", "1d"}, 6) {
		if len(rows) < 6 {
			continue
		}
		w := newWorld(t, 100, "f", i%2 == 0, []string{"l", "m"}, "f", "y\n")
		for _, line := range rows {
			w.step(line)
		}
	}
}

// draw draws numbers, each of which hangs on the one ahead.
type draw uint64

func (d *draw) below(n int) int {
	*d = *d*6364136223846793005 + 1442695040888963407
	return int(uint64(*d)>>33) % n
}

// one is one of some texts.
func (d *draw) one(of ...string) string { return of[d.below(len(of))] }

// span is a range as a text.
func (d *draw) span() string {
	return d.one("", "", "", "", "1", "2", "$", ".", "1,2", "2,$", "%", ".,+", "'a", "/a/", "?b?", "0", "//", "2,1", "9", "'b", "-,+")
}

// line is a line that may be taken, text or none.
func (d *draw) line() string {
	switch d.below(10) {
	case 0:
		return d.span() + d.one("a", "i", "c") + d.one("", "", "p", "n", "x")
	case 1:
		return d.one(".", ".", ".", "..", "", "new line", "a", "bb", "h", " .", strings.Repeat("w", 700), strings.Repeat("w", 1001), "n\nl")
	case 2, 3:
		return d.one("", "", "", d.span()) + d.one("e", "E", "r", "w", "w", "W", "f") + d.one("", "", " f", " g", " log", " none", " !ls", "x")
	case 4:
		return d.one("q", "q", "q", "e f", "e", "1q", "h", "h", "1h", "hp")
	case 5:
		return d.one("u", "u", "u", "1u", "1,2m1", "g/a/m0", "g/./t.", "v/a/d", "g/a/w", "g/b/s//a/p", "g/q/d")
	case 6:
		return d.span() + d.one("s/a/b/", "s/b/a&/p", "s//x/g", `s/./&\n/`, `s/\(/x/`, `s/a/\1/`, "s/a", "s", "s/a/b/2n")
	case 7:
		return d.span() + d.one("d", "d", "j", "m0", "m$", "m1", "t.", "t0", "ka", ">", "<", "ya", "ya c", "pu", "pu c", "pu q")
	}
	return d.span() + d.one("", "p", "l", "n", "=", "z", "z2", "zz", "pp", "!", "\xff")
}

// P25.1 to P25.4: long rows of drawn lines, with crashes, and with undos behind what changed lines.
func TestDrawnRows(t *testing.T) {
	told, ends := map[api.Errno]int{}, 0
	for seed := range 400 {
		d := draw(seed)
		w := newWorld(t, []int{60, 300, 100000}[d.below(3)], d.one("", "f", "g"), d.below(2) == 0, []string{"a", "ab", "b"}[d.below(4):], "f", "a\nb\n")
		for range 200 {
			if d.below(40) == 0 {
				w.crash(&d)
			}
			ahead := standOf(w.d.Core())
			line := d.line()
			e := w.step(line)
			told[e]++
			if w.d.Ended() {
				ends++
				break
			}
			if now := standOf(w.d.Core()); !w.d.Text() && !w.d.Turned() && d.below(3) == 0 && !slices.Equal(now.lines, ahead.lines) {
				w.undo(ahead, line)
			}
			if w.d.Core().N() > 40 && !w.d.Text() {
				w.step("9,$d")
			}
		}
	}
	for _, e := range []api.Errno{api.ErrArg, api.ErrLong, api.ErrNone, api.ErrFull, api.ErrDown, api.ErrPattern, api.ErrRepl, api.ErrNoRE, api.ErrAddress, api.ErrSought, api.ErrMark, api.ErrDest, api.ErrCommand, api.ErrSuffix, api.ErrGlobal, api.ErrMatch, api.ErrUndo, api.ErrReg, api.ErrName, api.ErrDirty} {
		if told[e] < 3 {
			t.Error(e, told[e])
		}
	}
	if told[api.OK] < 10000 || ends < 50 {
		t.Error(told[api.OK], ends)
	}
}

// crash turns the file systems off, at once or with a stroke to come, or on again.
func (w *world) crash(d *draw) {
	n, kept, way := d.below(4), []int{d.below(5), d.below(5)}, d.below(3)
	for _, f := range []*files.FS{w.f, w.p.f} {
		switch {
		case !f.Up():
			f.Start()
		case way == 0:
			f.Crash(kept)
		default:
			f.Fail(n, kept)
		}
	}
}

// undo goes back behind a line that changed lines, and on again.
func (w *world) undo(ahead stand, line string) {
	w.t.Helper()
	now := standOf(w.d.Core())
	for _, want := range []stand{ahead, now} {
		e := w.step("u")
		if got := standOf(w.d.Core()); e != api.OK || !slices.Equal(got.lines, want.lines) || got.marks != want.marks {
			w.t.Fatalf("u behind %.100q: %v, %.300v, not %.300v", line, e, got, want)
		}
	}
}
