package runs

import (
	"fmt"
	"regexp"
	"slices"
	"strconv"
	"strings"
	"testing"

	"inkhorn/addr"
	"inkhorn/api"
	"inkhorn/bre"
	"inkhorn/cmds"
	"inkhorn/core"
	"inkhorn/lines"
	"inkhorn/match"
	"inkhorn/regs"
	"inkhorn/splices"
	"inkhorn/subst"
	"inkhorn/templates"
)

// held is what an undo brings back. Lines are known by where they lie, so a mark, too, is a line, and no number.
type held struct {
	l     []*string
	cur   int
	marks [26]*string
}

// plain is a buffer by the document's words.
type plain struct {
	held
	last  string
	regs  *regs.Regs
	dirty bool
	back  *held
	parts int    // how many were done of this change
	out   string // what is told of this command
}

func newPlain(l []string) *plain {
	p := &plain{regs: regs.New()}
	p.l = fresh(l)
	p.cur = len(l)
	return p
}

// fresh is lines that were not there before.
func fresh(l []string) (all []*string) {
	for _, line := range l {
		all = append(all, &line)
	}
	return all
}

func (p *plain) texts(a, b int) (l []string) {
	for _, line := range p.l[a-1 : b] {
		l = append(l, *line)
	}
	return l
}

// number is a line's, or 0, if it is gone.
func (p *plain) number(line *string) int { return slices.Index(p.l, line) + 1 }

func (p *plain) view() api.View {
	v := api.View{Cur: p.cur, Last: p.last, Lines: p.texts(1, len(p.l))}
	for i, line := range p.marks {
		v.Marks[i] = p.number(line)
	}
	return v
}

// keep is what an undo would bring back now.
func (p *plain) keep() held {
	h := p.held
	h.l = slices.Clone(p.l)
	for i, line := range h.marks {
		if p.number(line) == 0 {
			h.marks[i] = nil
		}
	}
	return h
}

// part does a splice.
func (p *plain) part(at, del int, ins []string) api.Errno {
	if e := lines.Check(ins); e != api.OK {
		return e
	}
	if len(p.l)+len(ins)-del > api.MaxLines {
		return api.ErrLong
	}
	p.l = slices.Concat(p.l[:at], fresh(ins), p.l[at+del:])
	p.parts++
	return api.OK
}

// run does a command.
func (p *plain) run(x api.Cmd, text []string) (string, api.Errno) {
	if x.Name == 'u' {
		return "", p.undo(x)
	}
	if !slices.Contains([]byte("\x00acdgijklmnpstvz=><YP"), x.Name) {
		return "", api.ErrCommand
	}
	ahead, had := p.keep(), p.regs.Clone()
	p.parts, p.out = 0, ""
	if e := p.do(x, text); e != api.OK {
		p.held, p.regs = ahead, had
		return "", e
	}
	if p.parts > 0 {
		p.back, p.dirty = &ahead, true
	}
	return p.out, api.OK
}

func (p *plain) undo(x api.Cmd) api.Errno {
	switch {
	case len(x.Range.List) > 0:
		return api.ErrAddress
	case p.back == nil:
		return api.ErrUndo
	}
	now := p.keep()
	p.held, p.back, p.dirty = *p.back, &now, true
	return api.OK
}

// do does a command in a change, and what is to be told behind it.
func (p *plain) do(x api.Cmd, text []string) api.Errno {
	a, b, e := p.where(x)
	if e != api.OK {
		return e
	}
	for _, act := range []func(api.Cmd, int, int, []string) (bool, api.Errno){p.lay, p.carry, p.alter, p.keepOrTell} {
		if done, e := act(x, a, b, text); e != api.OK {
			return e
		} else if done {
			break
		}
	}
	if x.Print != 0 && p.cur > 0 {
		p.out += plainShow(x.Print, p.cur, *p.l[p.cur-1])
	}
	return api.OK
}

// where is a command's lines.
func (p *plain) where(x api.Cmd) (a, b int, e api.Errno) {
	a, b, n, last, e := addr.Eval(p.view(), x.Range)
	if e != api.OK {
		return 0, 0, e
	}
	p.last = last
	if n == 0 {
		switch x.Name {
		case 'j':
			a, b = p.cur, p.cur+1
		case 'g', 'v':
			a, b = 1, len(p.l)
			if len(p.l) == 0 {
				return 0, 0, api.ErrSought
			}
		case '=':
			a, b = len(p.l), len(p.l)
		case 0, 'z':
			a, b = p.cur+1, p.cur+1
		default:
			a, b = p.cur, p.cur
		}
	}
	in := func(line int) bool { return line >= 1 && line <= len(p.l) }
	ok := in(a) && in(b)
	if slices.Contains([]byte("ai=P"), x.Name) {
		ok = in(b) || b == 0
	}
	if x.Name == 'c' && len(p.l) == 0 {
		ok = a == 0 && b == 0
	}
	if !ok {
		return 0, 0, api.ErrAddress
	}
	return a, b, api.OK
}

// lay does what lays text.
func (p *plain) lay(x api.Cmd, a, b int, text []string) (bool, api.Errno) {
	at, del := b, 0
	switch x.Name {
	default:
		return false, api.OK
	case 'a':
		p.cur = b
	case 'i':
		p.cur = b
		if b > 0 {
			at = b - 1
		}
	case 'c', 'd':
		if x.Name == 'd' {
			text = nil
		}
		if b > 0 {
			at, del = a-1, b-a+1
			p.regs.Push(api.Reg{Lines: p.texts(a, b), Whole: true})
		}
		p.cur = a
	}
	if e := p.part(at, del, text); e != api.OK {
		return true, e
	}
	if p.cur > len(p.l) {
		p.cur = len(p.l)
	}
	if len(text) > 0 {
		p.cur = at + len(text)
	}
	return true, api.OK
}

// carry does what carries lines elsewhere.
func (p *plain) carry(x api.Cmd, a, b int, _ []string) (bool, api.Errno) {
	if x.Name != 'm' && x.Name != 't' {
		return false, api.OK
	}
	to := x.Dest
	if to.Kind == api.AdNone {
		to = api.Address{Kind: api.AdDot}
	}
	line, _, _, last, e := addr.Eval(p.view(), api.Range{List: []api.Address{to}})
	if e != api.OK {
		return true, e
	}
	p.last = last
	var behind *string // the line behind which they are to stand
	if line > 0 {
		behind = p.l[line-1]
	}
	l := p.texts(a, b)
	if x.Name == 'm' {
		if line >= a && line <= b-1 {
			return true, api.ErrDest
		}
		if line == b || line == a-1 {
			p.cur = b
			return true, api.OK
		}
		p.part(a-1, len(l), nil)
	}
	at := p.number(behind)
	if e := p.part(at, 0, l); e != api.OK {
		return true, e
	}
	p.cur = at + len(l)
	return true, api.OK
}

// alter does what makes lines others.
func (p *plain) alter(x api.Cmd, a, b int, _ []string) (bool, api.Errno) {
	switch x.Name {
	case 'j':
		p.cur = b
		if b > a {
			p.cur = a
			return true, p.part(a-1, b-a+1, []string{strings.Join(p.texts(a, b), "")})
		}
		return true, api.OK
	case 's':
		return true, p.substitute(x, a, b)
	case '>', '<':
		changed := false
		var l []string
		for _, line := range p.texts(a, b) {
			l = append(l, plainShift(line, x.Name == '>'))
			changed = changed || plainShift(line, x.Name == '>') != line
		}
		p.cur = b
		if changed {
			return true, p.part(a-1, b-a+1, l)
		}
		return true, api.OK
	case 'P':
		r, e := p.regs.Get(x.Letter)
		if e == api.OK {
			e = p.part(b, 0, r.Lines)
			p.cur = b + len(r.Lines)
		}
		return true, e
	case 'g', 'v':
		return true, p.global(x, a, b)
	}
	return false, api.OK
}

// pattern is what an s, or a g, means.
func (p *plain) pattern(x api.Cmd) (*bre.Re, api.Errno) {
	s := x.Re
	if s == "" {
		s = p.last
	}
	if s == "" {
		return nil, api.ErrNoRE
	}
	r, e := bre.Parse(s)
	if e == api.OK {
		p.last = s
	}
	return r, e
}

func (p *plain) substitute(x api.Cmd, a, b int) api.Errno {
	r, e := p.pattern(x)
	if e != api.OK {
		return e
	}
	tpl, e := templates.Parse(x.Repl)
	if e != api.OK || templates.Most(tpl) > bre.Groups(r) {
		return api.ErrRepl
	}
	found := false
	for _, line := range slices.Clone(p.l[a-1 : b]) {
		l, n, e := subst.Line(r, tpl, *line, x.Nth, x.All)
		if e != api.OK {
			return e
		}
		if n == 0 {
			continue
		}
		at := p.number(line)
		if e := p.part(at-1, 1, l); e != api.OK {
			return e
		}
		p.cur, found = at-1+len(l), true
	}
	if !found {
		return api.ErrMatch
	}
	return api.OK
}

func (p *plain) global(x api.Cmd, a, b int) api.Errno {
	sub, e := cmds.Parse(x.Sub)
	if e != api.OK {
		return e
	}
	if !slices.Contains([]byte("\x00djklmnpstz=><YP"), sub.Name) {
		return api.ErrGlobal
	}
	r, e := p.pattern(x)
	if e != api.OK {
		return e
	}
	var of []*string
	for _, line := range p.l[a-1 : b] {
		_, ok, e := match.Match(r, *line, 0, api.Fuel)
		if e != api.OK {
			return e
		}
		if ok == (x.Name == 'g') {
			of = append(of, line)
		}
	}
	if len(of) == 0 {
		return api.ErrSought
	}
	for _, line := range of {
		if p.number(line) == 0 {
			continue
		}
		p.cur = p.number(line)
		e := p.do(sub, nil)
		if sub.Name == 's' && e == api.ErrMatch {
			continue
		}
		if e != api.OK {
			return e
		}
	}
	return api.OK
}

// keepOrTell does what changes no lines.
func (p *plain) keepOrTell(x api.Cmd, a, b int, _ []string) (bool, api.Errno) {
	by, to := x.Name, b
	switch x.Name {
	case 'k':
		if x.Letter < 'a' || x.Letter > 'z' {
			return true, api.ErrMark
		}
		p.marks[x.Letter-'a'] = p.l[b-1]
		return true, api.OK
	case 'Y':
		return true, p.regs.Set(x.Letter, api.Reg{Lines: p.texts(a, b), Whole: true})
	case '=':
		p.out += fmt.Sprintln(b)
		return true, api.OK
	case 0:
		by, a = 'p', b
	case 'z':
		by, a, to = 'p', b, b+21
		if n, e := strconv.Atoi(x.Name2); e == nil && n > 0 && regexp.MustCompile(`^[0-9]{1,9}$`).MatchString(x.Name2) {
			to = b + n - 1
		}
		if to > len(p.l) {
			to = len(p.l)
		}
	}
	for i, line := range p.texts(a, to) {
		p.out += plainShow(by, a+i, line)
	}
	p.cur = to
	return true, api.OK
}

func plainShow(by byte, n int, line string) string {
	if by == 'n' {
		return fmt.Sprintf("%d\t%s\n", n, line)
	}
	if by != 'l' {
		return line + "\n"
	}
	var l []string
	for _, b := range []byte(line) {
		s := fmt.Sprintf("\\%03o", b)
		if b >= 32 && b <= 126 {
			s = string(rune(b))
		}
		l = append(l, s)
	}
	// What is one byte here stands for one, so nothing that was made of another byte is taken for it.
	for i, s := range l {
		switch s {
		case "$", "\\":
			l[i] = "\\" + s
		case "\\011":
			l[i] = "\\t"
		}
	}
	return strings.Join(l, "") + "$\n"
}

func plainShift(line string, right bool) string {
	if right && len(line) > 0 {
		return "\t" + line
	}
	if right {
		return line
	}
	return regexp.MustCompile("^(\t| {1,8})").ReplaceAllString(line, "")
}

// world is a buffer and a plain one, to which the same is done.
type world struct {
	t    *testing.T
	c    *core.Core
	p    *plain
	rows []string // what was done so far
}

func newWorld(t *testing.T, l []string) *world {
	t.Helper()
	return &world{t: t, c: buffer(t, len(l), l...), p: newPlain(l), rows: []string{fmt.Sprintf("%.300q", l)}}
}

// do does a command to both, and tells where they are not the same.
func (w *world) do(x api.Cmd, text []string) api.Errno {
	w.t.Helper()
	w.rows = append(w.rows, fmt.Sprintf("%+v %.100q", x, text))
	ahead := w.c.View().Lines
	out, l, e := Run(w.c, x, text)
	want, e2 := w.p.run(x, text)
	now, v := w.c.View(), w.p.view()
	if out != want || e != e2 {
		w.t.Fatalf("%s: %.300q %v, not %.300q %v", w.told(), out, e, want, e2)
	}
	if !slices.Equal(now.Lines, v.Lines) || now.Cur != v.Cur || now.Marks != v.Marks || now.Last != v.Last || w.c.Dirty() != w.p.dirty {
		w.t.Fatalf("%s: %.300q %d %v %q %t, not %.300q %d %v %q %t", w.told(), now.Lines, now.Cur, now.Marks, now.Last, w.c.Dirty(), v.Lines, v.Cur, v.Marks, v.Last, w.p.dirty)
	}
	if told(w.c.Regs()) != told(w.p.regs) {
		w.t.Fatalf("%s: %s, not %s", w.told(), told(w.c.Regs()), told(w.p.regs))
	}
	if to, e := splices.All(ahead, l); e != api.OK || !slices.Equal(to, now.Lines) {
		w.t.Fatalf("%s: %v leads to %.300q", w.told(), l, to)
	}
	return e
}

// told is the last things that were done.
func (w *world) told() string {
	return strings.Join(w.rows[max(0, len(w.rows)-12):], "\n")
}

// P23.1 to P23.4: all ranges of a few, ahead of all commands of a few, on all small buffers, at each line.
func TestAllSmall(t *testing.T) {
	ranges := []string{"", "0", "1", "2", "3", ".", "$", "0,1", "1,2", "1,3", "2,1", "2,3", "%", ";", "'a", "'b", "/b/", "?a?", "//", "-", "+", "'a,'b", "/a/;+", "1,2,3"}
	names := []string{"a", "ap", "i", "in", "c", "cl", "d", "dp", "j", "jp", "kb", "kbp", "p", "pn", "l", "n", "", "=", "=p", "z", "z1", "m", "m0", "m1", "m2", "m$", "m'a", "m/b/", "m'bp", "t", "t0", "t1", "t$p", "t/a/",
		"s/a/x/", "s/[ab]/&\\n/g", "s//x/p", "s/b*//2", "s/\\(.\\)/\\1\\1/", ">", "<", ">p", "ya", "ya b", "ya A", "pu", "pu a", "pu q", "u", "up", "g/a/p", "v/a/d", "g/./m0", "g/b/s/b/x/p", "g/./+s/a/x/", "g//p", "g/./.,+j", "g/./t$", "v/x/kbn", "g/./w", "g/a/>"}
	for _, l := range [][]string{nil, {"a"}, {""}, {"b", "a"}, {"\ta", "", "  ab"}} {
		for cur := range len(l) + 1 {
			for _, text := range [][]string{nil, {"x", "y"}} {
				for _, r := range ranges {
					for _, name := range names {
						w := newWorld(t, l)
						w.c.Go(cur)
						w.p.cur = cur
						w.c.Regs().Set('a', api.Reg{Lines: []string{"r", "s"}})
						w.p.regs.Set('a', api.Reg{Lines: []string{"r", "s"}})
						if len(l) > 0 {
							w.c.Mark('a', 1)
							w.p.marks[0] = w.p.l[0]
						}
						w.do(read(t, r+name), text)
						w.do(api.Cmd{Name: 'u'}, nil)
					}
				}
			}
		}
	}
}

// draw draws numbers, each of which hangs on the one ahead.
type draw uint64

func (d *draw) below(n int) int {
	*d = *d*6364136223846793005 + 1442695040888963407
	return int(uint64(*d)>>33) % n
}

// one is one of some texts.
func (d *draw) one(of ...string) string { return of[d.below(len(of))] }

// letter is one of some bytes.
func (d *draw) letter(of string) byte { return of[d.below(len(of))] }

func (d *draw) lines(most int) []string {
	var l []string
	for range d.below(most + 1) {
		l = append(l, d.one("", "a", "b", "ab", "abc", "aab", "\ta", "  b", "          c", "c\\$", "\xff\x00", "a.b.c", strings.Repeat("w", 300)))
	}
	return l
}

// address is one as a text.
func (d *draw) address() string {
	s := d.one("", ".", "$", "0", "1", "2", "3", "5", "8", "'a", "'b", "'c", "/a/", "/b/", "?c?", "//", "??", "/^$/", "/q/")
	return s + d.one("", "", "", "", "+", "-", "+2", "-2")
}

// span is a range as a text.
func (d *draw) span() string {
	switch d.below(8) {
	case 0, 1, 2:
		return ""
	case 3:
		return "%"
	case 4:
		return d.address() + d.one(",", ";") + d.address()
	case 5:
		return d.one("1", "2", "1,2", "2,3", "1,$", ".,$", "1,.", ".,+", "-,.", ".,+2")
	}
	return d.address()
}

// pattern is a pattern as a text; none of these has a slash.
func (d *draw) pattern() string {
	return d.one("", "a", "b", "c", "ab*", ".", "^", "$", "^$", "b*", `\(a\)\(b\)`, `\(.\)\1`, "[^a]", "q", "w", `[\$.]`)
}

// simple is a command line, but for its range, that may stand in a global one.
func (d *draw) simple() string {
	print := d.one("", "", "", "p", "l", "n")
	switch d.below(12) {
	case 0:
		return "d" + print
	case 1:
		return "j" + print
	case 2, 3:
		return "m" + d.address() + print
	case 4:
		return "t" + d.address() + print
	case 5, 6:
		return "s/" + d.pattern() + "/" + d.one("x", "&&", `\n`, `&\n`, "", `<\1>`, `\2\1`, `\&`) + "/" + d.one("", "g", "2", "2g") + print
	case 7:
		return d.one(">", "<") + print
	case 8:
		return "k" + d.one("a", "b", "c") + print
	case 9:
		return d.one("ya", "pu") + d.one("", " a"+print, " B"+print, "b"+print)
	case 10:
		return d.one("z", "z1", "z2", "")
	}
	return d.one("p", "l", "n", "=") + print
}

// command is a whole command line.
func (d *draw) command() string {
	switch d.below(10) {
	case 0, 1:
		return d.span() + d.one("g", "v") + "/" + d.pattern() + "/" + d.span() + d.simple()
	case 2, 3:
		return d.span() + d.one("a", "i", "c") + d.one("", "p")
	case 4:
		return d.one("u", "u", "u", "u", "1u", "g/a/u", "g/./i", "g/a/g/b/p", "v/q/v/r/d")
	}
	return d.span() + d.simple()
}

// P23.1 to P23.4: long rows of drawn command lines.
func TestDrawnRows(t *testing.T) {
	told := map[api.Errno]int{}
	for seed := range 300 {
		d := draw(seed)
		w := newWorld(t, d.lines(12))
		for range 150 {
			x, e := cmds.Parse(d.command())
			if e != api.OK {
				continue
			}
			told[w.do(x, d.lines(3))]++
			if w.c.N() > 60 {
				told[w.do(read(t, "9,$d"), nil)]++
			}
		}
	}
	for _, e := range []api.Errno{api.ErrAddress, api.ErrDest, api.ErrMatch, api.ErrUndo, api.ErrReg, api.ErrGlobal, api.ErrSought, api.ErrMark, api.ErrNoRE, api.ErrRepl} {
		if told[e] < 10 {
			t.Error(e, told[e])
		}
	}
	if told[api.OK] < 10000 {
		t.Error(told[api.OK])
	}
}

// anyAddress is an address that no text may say.
func (d *draw) anyAddress() api.Address {
	a, _, _ := addr.One(d.address())
	switch d.below(12) {
	case 0:
		a.Kind = d.below(9) - 1
	case 1:
		a.N = d.below(60) - 30
	case 2:
		a.Add = []int{1 << 40, -1 << 40, 1<<63 - 1, -1 << 63, 7}[d.below(5)]
	}
	return a
}

// anyCommand is a command that no line may say.
func (d *draw) anyCommand() api.Cmd {
	x := api.Cmd{
		Name: d.letter("\x00acdgijklmnpstuvz=><YPwq\xffssggvv"), Dest: d.anyAddress(), Letter: d.letter("\x00abzABZ0129@[{\xff"),
		Re: d.one(d.pattern(), d.pattern(), `\(`, "a\nb"), Repl: d.one("x", `\1`, `\2`, `\`, "a\nb", "&", strings.Repeat("&", 400)), All: d.below(2) == 0, Nth: d.below(5) - 1,
		Sub:   d.one(d.span()+d.simple(), d.span()+d.simple(), d.command(), "", "w", "\xff", "s/a"),
		Name2: d.one("", "1", "2", "0", "-1", "+1", "x", "0000000001", "000000001", "\n"), Print: d.letter("\x00\x00\x00plnq\xff"),
	}
	for range d.below(4) {
		x.Range.List = append(x.Range.List, d.anyAddress())
		x.Range.Semi = append(x.Range.Semi, d.below(2) == 0)
	}
	if len(x.Range.Semi) > 0 {
		x.Range.Semi = x.Range.Semi[d.below(2):]
	}
	return x
}

// R1, P23.1 to P23.4: long rows of commands that no line may say.
func TestDrawnCommands(t *testing.T) {
	for seed := range 200 {
		d := draw(seed)
		w := newWorld(t, d.lines(12))
		for range 150 {
			var text []string
			if d.below(2) == 0 {
				text = append(d.lines(3), d.one("", "a\nb", strings.Repeat("x", 1000), strings.Repeat("x", 1001), "new"))
			}
			w.do(d.anyCommand(), text)
			if w.c.N() > 60 {
				w.do(read(t, "9,$d"), nil)
			}
		}
	}
}

// P23.1 to P23.4: near the limit of lines.
func TestDrawnRowsOfManyLines(t *testing.T) {
	for seed := range 3 {
		d := draw(seed)
		w := newWorld(t, slices.Concat(slices.Repeat([]string{"a", "bab", ""}, 660), d.lines(20)))
		long := 0
		for range 60 {
			x, e := cmds.Parse(d.command())
			if e != api.OK {
				continue
			}
			if w.do(x, d.lines(20)) == api.ErrLong {
				long++
			}
			if w.c.N() < 1900 {
				w.do(read(t, "1a"), slices.Repeat([]string{"ab"}, 1990-w.c.N()))
			}
		}
		if long == 0 {
			t.Error(seed)
		}
	}
}
