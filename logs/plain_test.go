package logs

import (
	"slices"
	"strconv"
	"strings"
	"testing"

	"inkhorn/api"
	"inkhorn/files"
	"inkhorn/frames"
	"inkhorn/lines"
	"inkhorn/nums"
	"inkhorn/samples"
	"inkhorn/splices"
)

// plain is a journal by the document's words, on a file system of its own.
type plain struct {
	disk   *files.FS
	begun  bool
	starts int
	told   []api.Errno // what its file system told it
}

// start is Start by the document's words; on an error the elder journal is still the one that is asked.
func (p *plain) start(l []string) api.Errno {
	payload := base(l...)
	if len(payload) > api.MaxFrame {
		return api.ErrLong
	}
	frame, _ := frames.Frame(payload)
	if e := p.disk.Remove("log+"); e != api.OK && e != api.ErrNone {
		return e
	}
	if e := p.disk.Append("log+", frame); e != api.OK {
		return e
	}
	if e := p.disk.Sync("log+"); e != api.OK {
		return e
	}
	if e := p.disk.Rename("log+", "log"); e != api.OK {
		return e
	}
	*p = plain{disk: p.disk, begun: true, starts: p.disk.Starts()}
	return api.OK
}

// against is the error that is ahead of all others.
func (p *plain) against() api.Errno {
	if !p.begun {
		return api.ErrNil
	}
	for _, e := range p.told {
		if e != api.OK && e != api.ErrFull {
			return api.ErrDown
		}
	}
	if !p.disk.Up() || p.disk.Starts() > p.starts {
		return api.ErrDown
	}
	return api.OK
}

func (p *plain) add(l []api.Splice) api.Errno {
	if e := p.against(); e != api.OK {
		return e
	}
	for _, s := range l {
		if e := splices.Check(s); e != api.OK {
			return e
		}
	}
	if len(l) == 0 {
		return api.OK
	}
	frame, e := frames.Frame(change(l...))
	if e != api.OK {
		return e
	}
	p.told = append(p.told, p.disk.Append("log", frame))
	return p.told[len(p.told)-1]
}

func (p *plain) sync() api.Errno {
	if e := p.against(); e != api.OK {
		return e
	}
	p.told = append(p.told, p.disk.Sync("log"))
	return p.told[len(p.told)-1]
}

func (p *plain) stop() api.Errno {
	for _, name := range []string{"log+", "log"} {
		if e := p.disk.Remove(name); e != api.OK && e != api.ErrNone {
			return e
		}
	}
	return api.OK
}

// plainRecover is Recover by the document's words, one change behind the other.
func plainRecover(f *files.FS) ([]string, int, api.Errno) {
	text, e := f.Read("log")
	if e != api.OK {
		return nil, 0, e
	}
	payloads, _ := frames.Whole(text)
	var l []string
	for i, p := range payloads {
		got, _, ok := nums.GetList(p, 1)
		if i == 0 {
			if !ok || p != base(got...) || lines.Check(got) == api.ErrArg {
				return nil, 0, api.ErrBroke
			}
			l = got
			continue
		}
		if !ok || len(got) == 0 || p != "c"+put(got...) {
			return nil, 0, api.ErrBroke
		}
		for _, text := range got {
			s, e := splices.Decode(text)
			if e != api.OK {
				return nil, 0, api.ErrBroke
			}
			if l, e = splices.Apply(l, s); e != api.OK {
				return nil, 0, api.ErrBroke
			}
		}
	}
	if len(payloads) == 0 {
		return nil, 0, api.ErrBroke
	}
	return l, len(payloads) - 1, api.OK
}

// P18.3: all short rows of payloads, each with something behind it.
func TestShortFiles(t *testing.T) {
	splice := putSplice(ins(1, "x"))
	pool := []string{
		base(), base("a"), base("a", "b"), base("\n"), base(long(1, 1001)...), "b", base("a") + "0:", "",
		change(ins(0, "y")), change(ins(1, "x")), change(del(0, 1)), change(del(0, 1), ins(0, "p", "q")), change(del(2, 0), del(1, 1)), change(), "c" + put(splice, splice+"0:"), "d" + put(splice),
	}
	for _, payloads := range samples.Lists(pool, 3) {
		whole := framed(t, payloads...)
		for _, tail := range []string{"", "1:", "\n"} {
			f := made(t, 5000, "log", whole+tail)
			l, n, e := Recover(f)
			want, changes, g := plainRecover(f)
			if !slices.Equal(l, want) || n != changes || e != g {
				t.Fatalf("%q: %q, %d, %d, not %q, %d, %d", whole+tail, l, n, e, want, changes, g)
			}
		}
	}
}

// world is a journal and a plain one, to which the same is done; and what P18.4 promises.
type world struct {
	t    *testing.T
	f    *files.FS
	x    *Log
	p    plain
	row  string
	may  [][]string // the lines with which the journal began, and those behind each change since; none where there is no journal
	sure int        // as many changes are there for sure
}

func newWorld(t *testing.T, capacity int, row string) *world {
	return &world{t: t, f: made(t, capacity), p: plain{disk: made(t, capacity)}, row: row}
}

// same tells where both did not answer the same.
func (w *world) same(what string, got, want api.Errno) {
	w.t.Helper()
	if got != want {
		w.t.Fatalf("%s: %s: %d, not %d", w.row, what, got, want)
	}
}

// state is what a file system tells of itself.
func state(f *files.FS) string {
	s := strconv.FormatBool(f.Up()) + strconv.Itoa(f.Starts())
	for i, name := range f.Names() {
		text, _ := f.Read(name)
		s += " " + name + strconv.Itoa(f.Unsynced()[i]) + text
	}
	return s
}

// check tells where both file systems are not the same, or a recovery leads to what P18.4 does not allow; behind a crash it goes on from where that leads to.
func (w *world) check() {
	w.t.Helper()
	if got, want := state(w.f), state(w.p.disk); got != want {
		w.t.Fatalf("%s: %q, not %q", w.row, got, want)
	}
	l, n, e := Recover(w.f)
	want, changes, g := plainRecover(w.p.disk)
	if !slices.Equal(l, want) || n != changes || e != g {
		w.t.Fatalf("%s: %q, %d, %d, not %q, %d, %d", w.row, l, n, e, want, changes, g)
	}
	if len(w.may) == 0 || !w.f.Up() {
		return
	}
	if e != api.OK || n < w.sure || n >= len(w.may) || !slices.Equal(l, w.may[n]) {
		w.t.Fatalf("%s: %q, %d, %d; there may be %q, and %d are sure", w.row, l, n, e, w.may, w.sure)
	}
	if w.x.useless() == api.OK && n != len(w.may)-1 {
		w.t.Fatalf("%s: just %d of %q without a crash", w.row, n, w.may)
	}
}

func (w *world) start(l []string) {
	w.t.Helper()
	x, e := Start(w.f, l)
	w.same("Start", e, w.p.start(l))
	if (x != nil) != (e == api.OK) {
		w.t.Fatalf("%s: Start: %v, %d", w.row, x, e)
	}
	if e == api.OK {
		w.x, w.may, w.sure = x, [][]string{slices.Clone(l)}, 0
	}
}

// add adds a change that the lines allow, as far as it does.
func (w *world) add(l []api.Splice) {
	w.t.Helper()
	asked := w.x.useless() == api.OK
	e := w.x.Add(l)
	w.same("Add", e, w.p.add(l))
	if len(w.may) == 0 || !asked || len(l) == 0 {
		return
	}
	// Of a change that a crash met all may be there, too.
	if e == api.OK || e == api.ErrDown {
		next, g := splices.All(w.may[len(w.may)-1], l)
		w.same("All", g, api.OK)
		w.may = append(w.may, next)
	}
}

func (w *world) sync() {
	w.t.Helper()
	e := w.x.Sync()
	w.same("Sync", e, w.p.sync())
	if e == api.OK && len(w.may) > 0 {
		w.sure = len(w.may) - 1
	}
}

func (w *world) stop() {
	w.t.Helper()
	e := Stop(w.f)
	w.same("Stop", e, w.p.stop())
	if e == api.OK {
		w.may = nil
	}
}

func (w *world) crash(keep []int) {
	w.t.Helper()
	w.same("Crash", w.f.Crash(keep), w.p.disk.Crash(keep))
}

func (w *world) fail(n int, keep []int) {
	w.t.Helper()
	w.same("Fail", w.f.Fail(n, keep), w.p.disk.Fail(n, keep))
}

func (w *world) power() {
	w.t.Helper()
	w.same("files' Start", w.f.Start(), w.p.disk.Start())
}

// has is how many lines there are, as far as is known.
func (w *world) has() int {
	if len(w.may) == 0 {
		return 0
	}
	return len(w.may[len(w.may)-1])
}

// do does what a letter says.
func (w *world) do(letter byte) {
	w.t.Helper()
	switch letter {
	case 's':
		w.start([]string{"a"})
	case 't':
		w.start([]string{"b", "c"})
	case 'i':
		w.add([]api.Splice{ins(w.has(), "x"), ins(0, "y")})
	case 'd':
		w.add([]api.Splice{del(0, min(1, w.has()))})
	case 'y':
		w.sync()
	case 'p':
		w.stop()
	case 'c':
		w.crash([]int{30, 30})
	case 'u':
		w.power()
	case '0', '1', '2':
		w.fail(int(letter-'0'), []int{25})
	}
}

// P18.1 to P18.4: all short rows of acts, on a journal that begins, and on none.
func TestShortRows(t *testing.T) {
	for _, row := range samples.Texts("stidypcu012", 4) {
		for _, ahead := range []string{"", "siyi"} {
			w := newWorld(t, 200, ahead+row)
			for i := range len(w.row) {
				w.do(w.row[i])
				w.check()
			}
		}
	}
}

// P18.4: a crash at each act of a row, with each beginning kept; what is recovered begins the next journal.
func TestCrashesAtEachAct(t *testing.T) {
	for n := range 14 {
		for kept := range 80 {
			w := newWorld(t, 1000, strconv.Itoa(kept)+" kept of act "+strconv.Itoa(n))
			w.start([]string{"elder"})
			w.fail(n, []int{kept, kept})
			for _, letter := range []byte("iyididystiyp") {
				w.do(letter)
				w.check()
			}
			if !w.f.Up() {
				w.power()
			}
			w.check()
			l, _, e := Recover(w.f)
			if e == api.ErrNone && len(w.may) == 0 {
				continue
			}
			w.same("Recover", e, api.OK)
			w.start(l)
			w.do('i')
			w.sync()
			w.crash(nil)
			w.power()
			w.check()
		}
	}
}

// draw draws numbers, each of which hangs on the one ahead.
type draw uint64

func (d *draw) below(n int) int {
	*d = *d*6364136223846793005 + 1442695040888963407
	return int(*d>>33) % n
}

func (d *draw) keep(most int) []int {
	l := make([]int, d.below(4))
	for i := range l {
		l[i] = d.below(most) - 2
	}
	return l
}

func (d *draw) lines(most int) []string {
	var l []string
	for range d.below(most) {
		l = append(l, []string{"", "a", "1:a", "c0:", "\xff", strings.Repeat("w", 40)}[d.below(6)])
	}
	return l
}

// change is splices that may be done one behind the other where there are so many lines.
func (d *draw) change(size int) []api.Splice {
	var l []api.Splice
	for range d.below(4) {
		at := d.below(size + 1)
		s := api.Splice{At: at, Del: d.below(min(size-at, 3) + 1), Ins: d.lines(4)}
		l, size = append(l, s), size-s.Del+len(s.Ins)
	}
	return l
}

// P18.1 to P18.4: long rows of acts, of which some fail, find no room, or may not be.
func TestDrawnRows(t *testing.T) {
	for seed := range 400 {
		d := draw(seed)
		w := newWorld(t, 100+d.below(900), "seed "+strconv.Itoa(seed))
		for range 150 {
			switch d.below(16) {
			case 0:
				w.start(d.lines(6))
			case 1:
				w.stop()
			case 2:
				w.crash(d.keep(90))
			case 3:
				w.fail(d.below(6), d.keep(90))
			case 4:
				w.add([]api.Splice{{Ins: []string{"a"}}, {At: -1}})
			case 5, 6, 7:
				w.sync()
			default:
				w.add(d.change(w.has()))
			}
			w.check()
			if !w.f.Up() {
				w.power()
				w.check()
				w.start(d.lines(6))
				w.check()
			}
		}
	}
}
