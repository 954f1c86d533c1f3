package addr

import (
	"inkhorn/api"
	"inkhorn/bre"
	"inkhorn/marks"
	"inkhorn/match"
)

// far is how far from 0 a number, or what is added, may be.
const far = 1 << 40

// Eval is the lines that a range says: the last two, how many addresses there were, 2 at most, and the pattern that was used last.
func Eval(v api.View, r api.Range) (a, b, n int, last string, e api.Errno) {
	for i := range r.List {
		line, e := said(v, r, i, b)
		if e != api.OK {
			return 0, 0, 0, "", e
		}
		a, b = b, line
		v.Last = newest(r.List[i], v.Last)
		if semicolon(r, i) {
			v.Cur = line
		}
	}
	n = min(len(r.List), 2)
	if n == 1 {
		a = b
	}
	if a > b {
		return 0, 0, 0, "", api.ErrAddress
	}
	return a, b, n, v.Last, api.OK
}

// Search is the next line that a pattern matches, from the current one on, around the end; back: around the beginning.
func Search(v api.View, re string, back bool) (int, api.Errno) {
	if re == "" {
		re = v.Last
	}
	if re == "" {
		return 0, api.ErrNoRE
	}
	pattern, e := bre.Parse(re)
	if e != api.OK {
		return 0, e
	}
	for i := range v.Lines {
		line := onward(v, i)
		if back {
			line = backward(v, i)
		}
		_, ok, e := match.Match(pattern, v.Lines[line-1], 0, api.Fuel)
		if e != api.OK {
			return 0, e
		}
		if ok {
			return line, api.OK
		}
	}
	return 0, api.ErrSought
}

// said is the line that the i-th address of a range says, that of the one ahead of it being known.
func said(v api.View, r api.Range, i, ahead int) (line int, e api.Errno) {
	if x := r.List[i]; x.Kind == api.AdNone {
		line = leftOut(v, r, i, ahead)
	} else {
		line, e = based(v, x)
	}
	switch {
	case e != api.OK:
		return 0, e
	case line < 0 || line > len(v.Lines):
		return 0, api.ErrAddress
	}
	return line, api.OK
}

// leftOut is the line of an address that is not there.
func leftOut(v api.View, r api.Range, i, ahead int) int {
	switch {
	case i == 0 && semicolon(r, i):
		return v.Cur
	case i == 0:
		return 1
	case i == 1 && r.List[0].Kind == api.AdNone:
		return len(v.Lines)
	}
	return ahead
}

// based is the line of an address that is there, which may be none of the buffer's.
func based(v api.View, a api.Address) (line int, e api.Errno) {
	if isFar(a.N) || isFar(a.Add) {
		return 0, api.ErrAddress
	}
	switch a.Kind {
	case api.AdDot:
		line = v.Cur
	case api.AdLast:
		line = len(v.Lines)
	case api.AdNumber:
		line = a.N
	case api.AdMark:
		line, e = marks.Get(v.Marks, letter(a.N))
	case api.AdNext, api.AdPrev:
		line, e = Search(v, a.Re, a.Kind == api.AdPrev)
	default:
		e = api.ErrAddress
	}
	// A sum that goes round is far from all lines, too, as what is added is not that much.
	return line + a.Add, e
}

// letter is that of a mark's number; of others a byte that is no letter.
func letter(n int) byte {
	if n < 0 || n >= len(api.Marks{}) {
		return 0
	}
	return 'a' + byte(n)
}

// newest is the pattern that was used last, behind an address whose line was found.
func newest(a api.Address, last string) string {
	if (a.Kind == api.AdNext || a.Kind == api.AdPrev) && a.Re != "" {
		return a.Re
	}
	return last
}

// semicolon tells whether one stands behind the i-th address of a range, and ahead of another one.
func semicolon(r api.Range, i int) bool {
	return i < len(r.Semi) && i < len(r.List)-1 && r.Semi[i]
}

// onward is the i-th line, from 0 on, from the one behind the current one on, around the end.
func onward(v api.View, i int) int {
	n := len(v.Lines)
	return (current(v)+i)%n + 1
}

// backward is the i-th line, from 0 on, from the one ahead of the current one down, around the beginning.
func backward(v api.View, i int) int {
	n := len(v.Lines)
	return (max(current(v), 1)-2-i+n)%n + 1
}

// current is the current line, or the nearest one to it that a buffer may have.
func current(v api.View) int {
	return min(max(v.Cur, 0), len(v.Lines))
}

func isFar(n int) bool { return n < -far || n > far }
