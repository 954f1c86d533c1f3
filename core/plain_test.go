package core

import (
	"maps"
	"slices"
	"strconv"
	"strings"
	"testing"

	"inkhorn/api"
	"inkhorn/regs"
	"inkhorn/samples"
)

// stand is what an undo brings back, as a list of lines.
type stand struct {
	l     []string
	cur   int
	marks api.Marks
}

// plain is a buffer by the document's words.
type plain struct {
	stand
	last    string
	regs    map[byte]string
	dirty   bool
	undo    []stand // one at most
	begun   bool
	ahead   stand
	had     map[byte]string
	splices []api.Splice
}

func newPlain(l []string) *plain {
	return &plain{stand: stand{l: slices.Clone(l), cur: len(l)}, regs: map[byte]string{}}
}

// where is where a line is behind a splice: 0, if it is none, or gone.
func where(line int, s api.Splice) int {
	for i := range s.Del {
		if line == s.At+1+i {
			return 0
		}
	}
	if line <= s.At {
		return line
	}
	return line - s.Del + len(s.Ins)
}

func (p *plain) splice(s api.Splice) api.Errno {
	if !p.begun || s.At < 0 || s.Del < 0 || s.At+s.Del > len(p.l) {
		return api.ErrArg
	}
	for _, line := range s.Ins {
		if strings.Contains(line, "\n") {
			return api.ErrArg
		}
	}
	for _, line := range s.Ins {
		if len(line) > api.MaxBytes {
			return api.ErrLong
		}
	}
	if len(p.l)-s.Del+len(s.Ins) > api.MaxLines {
		return api.ErrLong
	}
	next := stand{l: slices.Replace(slices.Clone(p.l), s.At, s.At+s.Del, s.Ins...), cur: where(p.cur, s)}
	if next.cur == 0 {
		next.cur = s.At + 1
		if next.cur > len(next.l) {
			next.cur = len(next.l)
		}
	}
	for i, line := range p.marks {
		next.marks[i] = where(line, s)
	}
	p.stand = next
	p.splices = append(p.splices, s)
	return api.OK
}

func (p *plain) begin() api.Errno {
	if p.begun {
		return api.ErrArg
	}
	p.begun, p.ahead, p.had, p.splices = true, p.stand, maps.Clone(p.regs), nil
	return api.OK
}

func (p *plain) end() []api.Splice {
	told := p.splices
	if p.begun && len(told) > 0 {
		p.undo, p.dirty = []stand{p.ahead}, true
	}
	p.begun, p.splices = false, nil
	return told
}

func (p *plain) abort() {
	if p.begun {
		p.stand, p.regs = p.ahead, p.had
	}
	p.begun, p.splices = false, nil
}

func (p *plain) goBack() ([]api.Splice, api.Errno) {
	if p.begun {
		return nil, api.ErrArg
	}
	if len(p.undo) == 0 {
		return nil, api.ErrUndo
	}
	was := p.stand
	p.stand, p.undo, p.dirty = p.undo[0], []stand{was}, true
	return []api.Splice{{At: 0, Del: len(was.l), Ins: p.l}}, api.OK
}

func (p *plain) mark(letter byte, line int) api.Errno {
	if letter < 'a' || letter > 'z' {
		return api.ErrMark
	}
	if line < 1 || line > len(p.l) {
		return api.ErrAddress
	}
	p.marks[letter-'a'] = line
	return api.OK
}

func (p *plain) goTo(line int) api.Errno {
	if line < 0 || line > len(p.l) {
		return api.ErrAddress
	}
	p.cur = line
	return api.OK
}

// world is a buffer and a plain one, to which the same is done.
type world struct {
	t   *testing.T
	c   *Core
	r   *regs.Regs // as they were handed out at first
	p   *plain
	row string
}

func newWorld(t *testing.T, row string, l ...string) *world {
	t.Helper()
	c := made(t, l...)
	return &world{t: t, c: c, r: c.Regs(), p: newPlain(l), row: row}
}

// same tells where both did not answer the same.
func (w *world) same(what string, got, want api.Errno) {
	w.t.Helper()
	if got != want {
		w.t.Fatalf("%s: %s: %d, not %d", w.row, what, got, want)
	}
}

// leads tells where splices are others, or lead elsewhere than from lines to others.
func (w *world) leads(got, want []api.Splice, from, to []string) {
	w.t.Helper()
	if !slices.EqualFunc(got, want, sameSplice) {
		w.t.Fatalf("%s: %v, not %v", w.row, got, want)
	}
	for _, s := range got {
		from = slices.Concat(from[:s.At], s.Ins, from[s.At+s.Del:])
	}
	if !slices.Equal(from, to) {
		w.t.Fatalf("%s: %v leads to %q, not %q", w.row, got, from, to)
	}
}

// check tells where both are not the same.
func (w *world) check() {
	w.t.Helper()
	v, n := w.c.View(), w.c.N()
	if n != len(w.p.l) || !slices.Equal(v.Lines, w.p.l) || !slices.Equal(w.c.Lines(1, n), w.p.l) {
		w.t.Fatalf("%s: %d, %q, not %q", w.row, n, v.Lines, w.p.l)
	}
	if v.Cur != w.p.cur || w.c.Cur() != w.p.cur || v.Marks != w.p.marks || v.Last != w.p.last || w.c.Dirty() != w.p.dirty {
		w.t.Fatalf("%s: %d, %d, %q, %t, not %d, %d, %q, %t", w.row, v.Cur, v.Marks, v.Last, w.c.Dirty(), w.p.cur, w.p.marks, w.p.last, w.p.dirty)
	}
	if n > 0 && (w.c.Line(1) != w.p.l[0] || w.c.Line(n) != w.p.l[n-1]) || w.c.Line(n+1) != "" {
		w.t.Fatalf("%s: other lines by their numbers", w.row)
	}
	for _, letter := range []byte{0, 'a', 'b', '1', '2'} {
		got, e := w.c.Regs().Get(letter)
		other, _ := w.r.Get(letter)
		want, ok := w.p.regs[letter]
		if ok != (e == api.OK) || strings.Join(got.Lines, "\n") != want || !slices.Equal(got.Lines, other.Lines) {
			w.t.Fatalf("%s: register %d: %q, %d, not %q", w.row, letter, got.Lines, e, want)
		}
	}
}

func (w *world) begin() { w.same("Begin", w.c.Begin(), w.p.begin()) }

func (w *world) splice(s api.Splice) { w.same("Splice", w.c.Splice(s), w.p.splice(s)) }

func (w *world) end() {
	w.t.Helper()
	from, to := w.p.ahead.l, w.p.l
	told := w.p.end()
	if len(told) == 0 {
		from = to
	}
	w.leads(w.c.End(), told, from, to)
}

func (w *world) abort() {
	w.c.Abort()
	w.p.abort()
}

func (w *world) undo() {
	w.t.Helper()
	from := w.p.l
	told, e := w.p.goBack()
	got, g := w.c.Undo()
	w.same("Undo", g, e)
	w.leads(got, told, from, w.p.l)
}

func (w *world) goTo(line int) { w.same("Go", w.c.Go(line), w.p.goTo(line)) }

func (w *world) mark(letter byte, line int) {
	w.same("Mark", w.c.Mark(letter, line), w.p.mark(letter, line))
}

func (w *world) set(letter byte, text string) {
	w.same("Set", w.c.Regs().Set(letter, api.Reg{Lines: []string{text}}), api.OK)
	w.p.regs[letter], w.p.regs[0] = text, text
}

func (w *world) push(text string) {
	w.same("Push", w.c.Regs().Push(api.Reg{Lines: []string{text}}), api.OK)
	if elder, ok := w.p.regs['1']; ok {
		w.p.regs['2'] = elder
	}
	w.p.regs['1'], w.p.regs[0] = text, text
}

func (w *world) clean() {
	w.c.Clean()
	w.p.dirty = false
}

func (w *world) last(re string) {
	w.c.Last(re)
	w.p.last = re
}

// do does what a letter says; the number makes what is laid another text each time.
func (w *world) do(letter byte, number int) {
	w.t.Helper()
	text, n := strconv.Itoa(number), len(w.p.l)
	switch letter {
	case 'b':
		w.begin()
	case 'e':
		w.end()
	case 'a':
		w.abort()
	case 'u':
		w.undo()
	case 'i':
		w.splice(ins(w.p.cur, text))
	case 'd':
		w.splice(del(n-1, 1))
	case 'x':
		w.splice(api.Splice{At: 0, Del: 2, Ins: []string{text}})
	case 'n':
		w.splice(api.Splice{})
	case 'g':
		w.goTo(number % 3)
	case 'm':
		w.mark('a'+byte(number%2), 1+number%3)
	case 'r':
		w.set('a'+byte(number%2), text)
	case 'p':
		w.push(text)
	case 'c':
		w.clean()
	case 'l':
		w.last(text)
	}
}

// P19.3 to P19.6: all short rows of acts, on a new buffer, on one that was changed, and while a change has begun.
func TestShortRows(t *testing.T) {
	for _, row := range samples.Texts("beauidxngmrpcl", 4) {
		for _, ahead := range []string{"", "mbixecg", "bidecbxrm"} {
			w := newWorld(t, ahead+row, "one", "two")
			for i := range len(w.row) {
				w.do(w.row[i], i)
				if i >= len(ahead) {
					w.check()
				}
			}
		}
	}
}

// draw draws numbers, each of which hangs on the one ahead.
type draw uint64

func (d *draw) below(n int) int {
	*d = *d*6364136223846793005 + 1442695040888963407
	return int(*d>>33) % n
}

func (d *draw) lines(most int) []string {
	var l []string
	for range d.below(most) {
		l = append(l, []string{"", "a", "b", "\xff\x00", strings.Repeat("w", 40)}[d.below(5)]+strconv.Itoa(d.below(1000)))
	}
	return l
}

// splice is one that may be done to so many lines, but for one of eight.
func (d *draw) splice(size int) api.Splice {
	at := d.below(size + 1)
	s := api.Splice{At: at, Del: d.below(min(size-at, 5) + 1), Ins: d.lines(5)}
	switch d.below(32) {
	case 0:
		s.At -= size + 1
	case 1:
		s.Del = size - at + 1
	case 2:
		s.Ins = append(s.Ins, "a\nb")
	case 3:
		s.Ins = append(s.Ins, strings.Repeat("x", 1001))
	}
	return s
}

// step does one act that is drawn.
func (w *world) step(d *draw) {
	w.t.Helper()
	n := len(w.p.l)
	switch d.below(16) {
	case 0, 1:
		w.begin()
	case 2:
		w.end()
	case 3:
		w.abort()
	case 4:
		w.undo()
	case 5:
		w.goTo(d.below(n+3) - 1)
	case 6, 7:
		w.mark('a'+byte(d.below(27)), d.below(n+2))
	case 8:
		w.set('a'+byte(d.below(2)), strconv.Itoa(d.below(1000)))
	case 9:
		w.push(strconv.Itoa(d.below(1000)))
	case 10:
		w.clean()
	case 11:
		w.last(strconv.Itoa(d.below(1000)))
	default:
		for range d.below(4) {
			w.splice(d.splice(n))
			n = len(w.p.l)
		}
	}
}

// P19.3 to P19.6: long rows of acts, of which some may not be.
func TestDrawnRows(t *testing.T) {
	for seed := range 300 {
		d := draw(seed)
		w := newWorld(t, "seed "+strconv.Itoa(seed), d.lines(30)...)
		for range 400 {
			w.step(&d)
			w.check()
		}
	}
}

// P19.4 to P19.6: near the limit of lines.
func TestDrawnRowsOfManyLines(t *testing.T) {
	for seed := range 5 {
		d := draw(seed)
		w := newWorld(t, "seed "+strconv.Itoa(seed), many(1990, "a")...)
		for range 400 {
			w.step(&d)
			w.check()
		}
	}
}
