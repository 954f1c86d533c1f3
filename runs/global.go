package runs

import (
	"strings"

	"inkhorn/api"
	"inkhorn/bre"
	"inkhorn/cmds"
	"inkhorn/marks"
	"inkhorn/match"
)

// notGlobal are the names of those of these commands that may not stand in a global one.
const notGlobal = "acgiuv"

// global does a command for each of the lines in which a pattern matches, or, by v, does not.
func (r *run) global(x api.Cmd, a, b int) api.Errno {
	sub, e := cmds.Parse(x.Sub)
	if e != api.OK {
		return e
	}
	if !Mine(sub) || strings.IndexByte(notGlobal, sub.Name) >= 0 {
		return api.ErrGlobal
	}
	re, e := r.pattern(x.Re)
	if e != api.OK {
		return e
	}
	r.left, e = r.chosen(re, a, b, x.Name == 'g')
	if e != api.OK {
		return e
	}
	for len(r.left) > 0 {
		line := r.left[0]
		r.left = r.left[1:]
		if e := r.doAt(line, sub); e != api.OK && e != api.ErrMatch {
			return e
		}
	}
	return api.OK
}

// doAt does a command where a line is the current one.
func (r *run) doAt(line int, x api.Cmd) api.Errno {
	if e := r.core.Go(line); e != api.OK {
		return e
	}
	return r.do(x, nil)
}

// chosen is which of the lines from a to b a pattern matches in, or does not, as is wanted.
func (r *run) chosen(re *bre.Re, a, b int, wanted bool) ([]int, api.Errno) {
	var l []int
	for i, line := range r.core.Lines(a, b) {
		_, ok, e := match.Match(re, line, 0, api.Fuel)
		if e != api.OK {
			return nil, e
		}
		if ok == wanted {
			l = append(l, a+i)
		}
	}
	if len(l) == 0 {
		return nil, api.ErrSought
	}
	return l, api.OK
}

// still is where lines are behind a splice, but for those that are gone. (The list is the caller's no more.)
func still(l []int, s api.Splice) []int {
	left := l[:0]
	for _, line := range l {
		if n, ok := marks.Line(line, s); ok {
			left = append(left, n)
		}
	}
	return left
}
