package runs

import (
	"inkhorn/addr"
	"inkhorn/api"
	"inkhorn/bre"
)

// lines are those of a command, from a to b.
func (r *run) lines(x api.Cmd) (a, b int, e api.Errno) {
	a, b, n, e := r.said(x.Range)
	if e != api.OK {
		return 0, 0, e
	}
	last := r.core.N()
	if n == 0 {
		a, b = r.unsaid(x.Name)
		if b == 0 && isGlobal(x.Name) {
			return 0, 0, api.ErrSought
		}
	}
	least := 1
	switch x.Name {
	case 'a', 'i', '=', 'P':
		a, least = b, 0
	case 'c':
		least = min(1, last)
	}
	if a < least || b > last {
		return 0, 0, api.ErrAddress
	}
	return a, b, api.OK
}

// unsaid are the lines of a command without addresses, which may be none of the buffer's.
func (r *run) unsaid(name byte) (a, b int) {
	cur, last := r.core.Cur(), r.core.N()
	switch name {
	case 'j':
		return cur, cur + 1
	case 'g', 'v':
		return 1, last
	case '=':
		return last, last
	case 0, 'z':
		return cur + 1, cur + 1
	}
	return cur, cur
}

// destination is the line behind which lines are to stand.
func (r *run) destination(to api.Address) (int, api.Errno) {
	if to.Kind == api.AdNone {
		to = api.Address{Kind: api.AdDot}
	}
	_, line, _, e := r.said(api.Range{List: []api.Address{to}})
	return line, e
}

// said are the lines that a range says, and how many addresses it has, 2 at most.
func (r *run) said(of api.Range) (a, b, n int, e api.Errno) {
	a, b, n, last, e := addr.Eval(r.core.View(), of)
	if e != api.OK {
		return 0, 0, 0, e
	}
	r.core.Last(last)
	return a, b, n, api.OK
}

// pattern is the one that a text says, or the one that was used last; from here on it is the latter.
func (r *run) pattern(text string) (*bre.Re, api.Errno) {
	if text == "" {
		text = r.core.View().Last
	}
	if text == "" {
		return nil, api.ErrNoRE
	}
	re, e := bre.Parse(text)
	if e != api.OK {
		return nil, e
	}
	r.core.Last(text)
	return re, api.OK
}

func isGlobal(name byte) bool { return name == 'g' || name == 'v' }
