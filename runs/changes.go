package runs

import (
	"slices"
	"strings"

	"inkhorn/api"
	"inkhorn/bre"
	"inkhorn/subst"
	"inkhorn/templates"
)

// change lays text in the place of lines, which go into the registers. (Both numbers are 0, if there are no lines.)
func (r *run) change(a, b int, text []string) api.Errno {
	if b == 0 {
		return r.layText(0, 0, text, 0)
	}
	if e := r.core.Regs().Push(r.whole(a, b)); e != api.OK {
		return e
	}
	return r.layText(a-1, b-a+1, text, a)
}

// join makes one line of several.
func (r *run) join(a, b int) api.Errno {
	if a == b {
		return r.core.Go(b)
	}
	return r.lay(a-1, b-a+1, []string{strings.Join(r.core.Lines(a, b), "")})
}

// move takes lines from where they are, and lays them behind another one.
func (r *run) move(dest api.Address, a, b int) api.Errno {
	to, e := r.destination(dest)
	switch {
	case e != api.OK:
		return e
	case a <= to && to < b:
		return api.ErrDest
	case to == b || to == a-1:
		return r.core.Go(b)
	}
	l := r.core.Lines(a, b)
	if e := r.splice(a-1, len(l), nil); e != api.OK {
		return e
	}
	if to > b {
		to -= len(l)
	}
	return r.lay(to, 0, l)
}

// transfer lays lines behind another one, too.
func (r *run) transfer(dest api.Address, a, b int) api.Errno {
	to, e := r.destination(dest)
	if e != api.OK {
		return e
	}
	return r.lay(to, 0, r.core.Lines(a, b))
}

// put lays a register's lines behind a line.
func (r *run) put(letter byte, b int) api.Errno {
	x, e := r.core.Regs().Get(letter)
	if e != api.OK {
		return e
	}
	return r.lay(b, 0, x.Lines)
}

// shift lays lines that are shifted in the place of lines.
func (r *run) shift(a, b int, right bool) api.Errno {
	was := r.core.Lines(a, b)
	l := slices.Clone(was)
	for i, line := range l {
		l[i] = Shift(line, right)
	}
	if slices.Equal(l, was) {
		return r.core.Go(b)
	}
	return r.lay(a-1, len(l), l)
}

// substitute lays lines with matches replaced in the place of lines.
func (r *run) substitute(x api.Cmd, a, b int) api.Errno {
	re, e := r.pattern(x.Re)
	if e != api.OK {
		return e
	}
	repl, e := templates.Parse(x.Repl)
	if e != api.OK {
		return e
	}
	if templates.Most(repl) > bre.Groups(re) {
		return api.ErrRepl
	}
	at, done := a-1, false
	for _, line := range r.core.Lines(a, b) {
		l, n, e := subst.Line(re, repl, line, x.Nth, x.All)
		if e != api.OK {
			return e
		}
		if n > 0 {
			if e := r.lay(at, 1, l); e != api.OK {
				return e
			}
			done = true
		}
		at += len(l)
	}
	if !done {
		return api.ErrMatch
	}
	return api.OK
}
