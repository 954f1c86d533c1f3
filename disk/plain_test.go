package disk

import (
	"fmt"
	"maps"
	"slices"
	"strings"
	"testing"

	"inkhorn/addr"
	"inkhorn/api"
	"inkhorn/cmds"
	"inkhorn/core"
	"inkhorn/files"
	"inkhorn/splices"
)

// held is what an undo brings back. Lines are known by where they lie, so a mark, too, is a line, and no number.
type held struct {
	l     []*string
	cur   int
	marks [26]*string
}

// plain is an editor by the document's words: a buffer, its file's name, and a disk of that many bytes.
type plain struct {
	held
	back  *held
	last  string
	dirty bool
	name  string
	files map[string]string
	size  int
}

// fresh is lines that were not there before.
func fresh(l []string) (all []*string) {
	for _, line := range l {
		all = append(all, &line)
	}
	return all
}

func (p *plain) number(line *string) int { return slices.Index(p.l, line) + 1 }

func (p *plain) view() api.View {
	v := api.View{Cur: p.cur, Last: p.last}
	for _, line := range p.l {
		v.Lines = append(v.Lines, *line)
	}
	for i, line := range p.marks {
		v.Marks[i] = p.number(line)
	}
	return v
}

// keep is what an undo would bring back now.
func (p *plain) keep() *held {
	h := p.held
	h.l = slices.Clone(p.l)
	for i, line := range h.marks {
		if p.number(line) == 0 {
			h.marks[i] = nil
		}
	}
	return &h
}

// change lays lines in the place of others.
func (p *plain) change(at, del int, ins []string, cur int) {
	p.back = p.keep()
	p.l = slices.Concat(p.l[:at], fresh(ins), p.l[at+del:])
	p.cur, p.dirty = cur, true
}

func (p *plain) undo() api.Errno {
	if p.back == nil {
		return api.ErrUndo
	}
	now := p.keep()
	p.held, p.back, p.dirty = *p.back, now, true
	return api.OK
}

// isPlainName tells whether a text may be a file's name.
func isPlainName(s string) bool {
	for _, b := range []byte(s) {
		if b < '!' || b > '}' {
			return false
		}
	}
	return len(s) >= 1 && len(s) <= 16 && !(len(s) >= 3 && s[:3] == "log")
}

// read is a file's lines, and its bytes.
func (p *plain) read(name string) ([]string, string, api.Errno) {
	text, ok := p.files[name]
	if !ok {
		return nil, "", api.ErrNone
	}
	l := strings.Split(text, "\n")
	if l[len(l)-1] == "" {
		l = l[:len(l)-1]
	}
	for _, line := range l {
		if len(line) > 1000 {
			return nil, "", api.ErrLong
		}
	}
	if len(l) > 2000 {
		return nil, "", api.ErrLong
	}
	return l, text, api.OK
}

// write makes a text a file, if there is room for both.
func (p *plain) write(name, text string) api.Errno {
	size := len(text)
	for _, other := range p.files {
		size += len(other)
	}
	if size > p.size || len(p.files) >= 32 {
		return api.ErrFull
	}
	p.files[name] = text
	return api.OK
}

// answer is what a command is to answer, but for the buffer itself.
type answer struct {
	out, name        string
	end, wrote, anew bool
}

// run does a command, but for what it lays into files if that fails.
func (p *plain) run(x api.Cmd, force bool) (answer, api.Errno) {
	a := answer{name: p.name}
	file := x.Name2
	if file == "" {
		file = p.name
	}
	switch x.Name {
	case 'e', 'E', 'f', 'q', 'Q':
		if len(x.Range.List) > 0 {
			return answer{}, api.ErrAddress
		}
		if x.Name != 'q' && x.Name != 'Q' && !isPlainName(file) {
			return answer{}, api.ErrName
		}
		if (x.Name == 'e' || x.Name == 'q') && p.dirty && !force {
			return answer{}, api.ErrDirty
		}
	}
	var e api.Errno
	switch x.Name {
	case 'e', 'E':
		l, text, e := p.read(file)
		if e != api.OK {
			return answer{}, e
		}
		*p = plain{held: held{l: fresh(l), cur: len(l)}, files: p.files, size: p.size}
		a = answer{out: fmt.Sprintln(len(text)), name: file, anew: true}
	case 'f':
		a.out, a.name = file+"\n", file
	case 'q', 'Q':
		a.end = true
	case 'r':
		e = p.doRead(x, file, &a)
	case 'w', 'W':
		e = p.doWrite(x, file, &a)
	default:
		e = api.ErrCommand
	}
	if e != api.OK {
		return answer{}, e
	}
	p.name = a.name
	return a, api.OK
}

func (p *plain) doRead(x api.Cmd, file string, a *answer) api.Errno {
	_, at, n, last, e := addr.Eval(p.view(), x.Range)
	if e != api.OK {
		return e
	}
	p.last = last
	if n == 0 {
		at = len(p.l)
	}
	if !isPlainName(file) {
		return api.ErrName
	}
	l, text, e := p.read(file)
	if e != api.OK {
		return e
	}
	if len(p.l)+len(l) > 2000 {
		return api.ErrLong
	}
	p.change(at, 0, l, at+len(l))
	a.out = fmt.Sprintln(len(text))
	if a.name == "" {
		a.name = file
	}
	return api.OK
}

func (p *plain) doWrite(x api.Cmd, file string, a *answer) api.Errno {
	from, to, n, last, e := addr.Eval(p.view(), x.Range)
	if e != api.OK {
		return e
	}
	p.last = last
	if n > 0 && from == 0 {
		return api.ErrAddress
	}
	text, all := "", true
	for i, line := range p.l {
		if n == 0 || from <= i+1 && i+1 <= to {
			text += *line + "\n"
		} else {
			all = false
		}
	}
	if !isPlainName(file) {
		return api.ErrName
	}
	ahead := ""
	if x.Name == 'W' {
		ahead = p.files[file]
	}
	if e := p.write(file, ahead+text); e != api.OK {
		return e
	}
	a.out = fmt.Sprintln(len(text))
	if a.name == "" {
		a.name = file
	}
	if x.Name == 'w' && all && file == a.name {
		p.dirty, a.wrote = false, true
	}
	return api.OK
}

// world is an editor and a plain one, to which the same is done.
type world struct {
	t    *testing.T
	c    *core.Core
	f    *files.FS
	name string
	p    *plain
	rows []string // what was done so far
}

func newWorld(t *testing.T, size int, l []string) *world {
	t.Helper()
	c, e := core.New(l)
	if e != api.OK {
		t.Fatal(e)
	}
	p := &plain{files: map[string]string{}, size: size}
	p.l, p.cur = fresh(l), len(l)
	return &world{t: t, c: c, f: made(t, size), p: p, rows: []string{fmt.Sprintf("%.300q in %d", l, size)}}
}

// do does a command to both, and tells where they are not the same.
func (w *world) do(x api.Cmd, force bool) api.Errno {
	w.t.Helper()
	w.rows = append(w.rows, fmt.Sprintf("%+v %t of %q", x, force, w.name))
	ahead := w.c.View().Lines
	r, e := Run(w.c, w.f, w.name, x, force)
	if e == api.ErrDown {
		checkNothing(w.t, r)
		w.failed(x, force)
		return e
	}
	want, e2 := w.p.run(x, force)
	if got := (answer{r.Out, r.Name, r.End, r.Wrote, r.Anew}); e != e2 || got != want {
		w.t.Fatalf("%s: %v %+v, not %v %+v", w.told(), e, got, e2, want)
	}
	if e != api.OK {
		checkNothing(w.t, r)
		w.check()
		return e
	}
	if (r.Core == w.c) == r.Anew {
		w.t.Fatalf("%s: the buffer", w.told())
	}
	w.c, w.name = r.Core, r.Name
	if to, e := splices.All(ahead, r.Change); !r.Anew && (e != api.OK || !slices.Equal(to, w.c.View().Lines)) {
		w.t.Fatalf("%s: %v leads to %.300q", w.told(), r.Change, to)
	}
	w.check()
	return e
}

// failed goes on behind a command in which the power failed: the file that it was to write is the old one, or the new one.
func (w *world) failed(x api.Cmd, force bool) {
	w.t.Helper()
	w.f.Start()
	had := maps.Clone(w.p.files)
	then := *w.p
	then.l, then.files = slices.Clone(w.p.l), maps.Clone(w.p.files)
	then.run(x, force)
	w.p.last = then.last
	if x.Name != 'w' && x.Name != 'W' {
		w.t.Fatalf("%s: it writes", w.told())
	}
	if !w.has(had) && !w.has(then.files) {
		w.t.Fatalf("%s: %.300q", w.told(), filesOf(w.t, w.f))
	}
	if w.has(then.files) {
		w.p.files = then.files
	}
	w.check()
}

// has tells whether the files are these.
func (w *world) has(want map[string]string) bool {
	got := filesOf(w.t, w.f)
	for i := 0; i < len(got); i += 2 {
		if text, ok := want[got[i]]; !ok || text != got[i+1] {
			return false
		}
	}
	return len(got) == 2*len(want)
}

// check tells where both are not the same.
func (w *world) check() {
	w.t.Helper()
	now, v := w.c.View(), w.p.view()
	if !slices.Equal(now.Lines, v.Lines) || now.Cur != v.Cur || now.Marks != v.Marks || now.Last != v.Last || w.c.Dirty() != w.p.dirty || w.name != w.p.name {
		w.t.Fatalf("%s: %.300q %d %v %q %t %q, not %.300q %d %v %q %t %q", w.told(), now.Lines, now.Cur, now.Marks, now.Last, w.c.Dirty(), w.name, v.Lines, v.Cur, v.Marks, v.Last, w.p.dirty, w.p.name)
	}
	if !w.has(w.p.files) {
		w.t.Fatalf("%s: %.300q, not %.300q", w.told(), filesOf(w.t, w.f), w.p.files)
	}
}

// told is the last things that were done.
func (w *world) told() string {
	return strings.Join(w.rows[max(0, len(w.rows)-12):], "\n")
}

// undo undoes, and does it again, or leaves it undone.
func (w *world) undo(again bool) {
	w.t.Helper()
	w.rows = append(w.rows, "u")
	_, e := w.c.Undo()
	if e2 := w.p.undo(); e != e2 {
		w.t.Fatalf("%s: %v, not %v", w.told(), e, e2)
	}
	w.check()
	if again {
		w.undo(false)
	}
}

// lay makes a text a file, whoever wrote it.
func (w *world) lay(name, text string) {
	w.t.Helper()
	w.rows = append(w.rows, fmt.Sprintf("%s: %.100q", name, text))
	w.f.Fail(1<<40, nil) // So no crash comes with these strokes.
	w.f.Remove(name)
	delete(w.p.files, name)
	if w.f.Append(name, text) == api.OK {
		w.f.Sync(name)
		w.p.files[name] = text
	}
	w.check()
}

// P24.1, P24.3: all ranges of a few, ahead of all commands, with all names of a few, in all small buffers, clean and changed, on all small disks of a few.
func TestAllSmall(t *testing.T) {
	ranges := []string{"", "0", "1", "2", "3", "$", "0,1", "1,2", "2,1", "%", ";", "'a", "/b/", "//"}
	for _, l := range [][]string{nil, {"a"}, {"b", "a"}, {"", "bb", "a"}} {
		for _, text := range []string{"none", "", "x", "x\n\ny\n"} {
			for _, r := range ranges {
				for _, line := range []string{"e", "E", "f", "r", "w", "W", "q", "Q"} {
					for _, file := range []string{"", " f", " g", " log"} {
						for _, name := range []string{"", "f", "g", "logs"} {
							if file != "" && strings.Contains("qQ", line) {
								continue
							}
							x := read(t, r+line+file)
							for way := range 6 {
								oneSmall(t, l, text, name, x, way)
							}
						}
					}
				}
			}
		}
	}
}

// oneSmall does a command in one of six ways: clean, changed, and with force; on a small disk, and on a great one.
func oneSmall(t *testing.T, l []string, text, name string, x api.Cmd, way int) {
	t.Helper()
	w := newWorld(t, []int{9, 100}[way%2], l)
	if text != "none" {
		w.lay("f", text)
	}
	if w.c.N() > 0 {
		w.c.Mark('a', 1)
		w.p.marks[0] = w.p.l[0]
	}
	w.name, w.p.name = name, name
	if way > 1 {
		change(w.c, api.Splice{})
		w.c.Go(0)
		w.p.change(0, 0, nil, 0)
	}
	if w.do(x, way > 3) == api.OK {
		w.undo(true)
	}
}

// draw draws numbers, each of which hangs on the one ahead.
type draw uint64

func (d *draw) below(n int) int {
	*d = *d*6364136223846793005 + 1442695040888963407
	return int(uint64(*d)>>33) % n
}

// one is one of some texts.
func (d *draw) one(of ...string) string { return of[d.below(len(of))] }

func (d *draw) lines(most int) []string {
	var l []string
	for range d.below(most + 1) {
		l = append(l, d.one("", "a", "b", "ab", "abc", "\r", "\xff\x00", " c ", strings.Repeat("w", 30)))
	}
	return l
}

// address is one as a text.
func (d *draw) address() string {
	s := d.one("", ".", "$", "0", "1", "2", "3", "5", "'a", "'b", "/a/", "?b?", "//", "/q/")
	return s + d.one("", "", "", "", "+", "-", "+2")
}

// span is a range as a text.
func (d *draw) span() string {
	switch d.below(8) {
	case 0, 1, 2, 3:
		return ""
	case 4:
		return d.address() + d.one(",", ";") + d.address()
	case 5:
		return d.one("%", ",", ";", "1,2", "2,3", "1,$", ".,$", "1,.", "-,.")
	}
	return d.address()
}

// file is a file's name as a text, which most of the time may be one.
func (d *draw) file() string {
	return d.one("", "", "", " f", " f", " g", " h", " {}", " 1234567890123456", " "+string(rune('A'+d.below(26))), " log", " logs", " 12345678901234567", " a~", " none")
}

// command is a whole command line.
func (d *draw) command() string {
	return d.span() + d.one("w", "w", "w", "W", "W", "r", "r", "r", "e", "E") + d.file()
}

// act does something that is no command with files.
func (w *world) act(d *draw) {
	w.t.Helper()
	n := len(w.p.l)
	switch d.below(9) {
	case 0, 1:
		w.undo(d.below(2) == 0)
	case 2, 3:
		at := d.below(n + 1)
		s := api.Splice{At: at, Del: d.below(min(n-at, 4) + 1), Ins: d.lines(4)}
		w.rows = append(w.rows, fmt.Sprint(s))
		if change(w.c, s) == api.OK {
			cur := w.c.Cur() // where it is behind a splice is package core's
			w.p.change(s.At, s.Del, s.Ins, cur)
		}
	case 4:
		if n > 0 {
			line, letter := d.below(n)+1, d.below(3)
			w.c.Mark('a'+byte(letter), line)
			w.p.marks[letter] = w.p.l[line-1]
		}
	case 5:
		line := d.below(n + 1)
		w.c.Go(line)
		w.p.cur = line
	case 6:
		w.lay(d.one("f", "g", "h", "~~", "log", "a b"), strings.Join(d.lines(6), "\n"))
	case 7:
		w.rows = append(w.rows, "crash")
		if w.f.Crash([]int{d.below(9), d.below(9)}) != api.OK || w.f.Start() != api.OK {
			w.t.Fatal(w.told())
		}
	case 8:
		w.rows = append(w.rows, "fail")
		w.f.Fail(d.below(12), []int{d.below(9), d.below(9), d.below(9)})
	}
	w.check()
}

// P24.1, P24.3, P0.4: long rows of drawn command lines, changes, and crashes.
func TestDrawnRows(t *testing.T) {
	told := map[api.Errno]int{}
	for seed := range 300 {
		d := draw(seed)
		w := newWorld(t, 30+d.below(600), d.lines(8))
		for range 150 {
			if d.below(3) == 0 {
				w.act(&d)
				continue
			}
			line := d.command()
			if d.below(8) == 0 {
				line = d.one("q", "Q", "1q", "f", "f f", "f log", "f F", "1f", "1e f")
			}
			x, e := cmds.Parse(line)
			if e != api.OK {
				continue
			}
			told[w.do(x, d.below(4) == 0)]++
			if w.c.N() > 40 {
				change(w.c, api.Splice{At: 9, Del: w.c.N() - 9})
				w.p.change(9, len(w.p.l)-9, nil, w.c.Cur())
			}
		}
	}
	for _, e := range []api.Errno{api.ErrAddress, api.ErrSought, api.ErrMark, api.ErrNoRE, api.ErrName, api.ErrDirty, api.ErrNone, api.ErrFull, api.ErrDown} {
		if told[e] < 50 {
			t.Error(e, told[e])
		}
	}
	if told[api.OK] < 5000 {
		t.Error(told[api.OK])
	}
}

// R1: long rows of commands that no line may say.
func TestDrawnCommands(t *testing.T) {
	for seed := range 300 {
		d := draw(seed)
		w := newWorld(t, 30+d.below(600), d.lines(8))
		for range 100 {
			x := api.Cmd{Name: []byte("eEfrwWqQwWrr\x00xacs\xff")[d.below(18)], Name2: d.one("", "f", "g", "a\nb", "\x00", "f f", "log", "~", "\xff", "12345678901234567")}
			for range d.below(5) * d.below(2) {
				a := api.Address{Kind: d.below(9) - 1, N: d.below(8) - 2, Re: d.one("", "a", `\(`, "q"), Add: []int{0, 0, 0, 1, -1, 1 << 40, -1 << 63, 1<<63 - 1}[d.below(8)]}
				x.Range.List = append(x.Range.List, a)
				x.Range.Semi = append(x.Range.Semi, d.below(2) == 0)
			}
			w.do(x, d.below(2) == 0)
			if d.below(4) == 0 {
				w.act(&d)
			}
			if w.c.N() > 40 {
				change(w.c, api.Splice{At: 9, Del: w.c.N() - 9})
				w.p.change(9, len(w.p.l)-9, nil, w.c.Cur())
			}
		}
	}
}
