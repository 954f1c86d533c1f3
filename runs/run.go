package runs

import (
	"strings"

	"inkhorn/api"
	"inkhorn/core"
)

// run is a command that is being done, in a change of its buffer.
type run struct {
	core *core.Core
	out  strings.Builder // what is told
	left []int           // of a global command: the lines for which its command is still to be done
}

// do does a command, and tells what is to be told behind it.
func (r *run) do(x api.Cmd, text []string) api.Errno {
	a, b, e := r.lines(x)
	if e != api.OK {
		return e
	}
	if e := r.act(x, a, b, text); e != api.OK {
		return e
	}
	if line := r.core.Cur(); x.Print != 0 && line != 0 {
		return r.tell(x.Print, line, line)
	}
	return api.OK
}

// act does to the lines from a to b what a command's name says.
func (r *run) act(x api.Cmd, a, b int, text []string) api.Errno {
	switch x.Name {
	case 'a':
		return r.layText(b, 0, text, b)
	case 'i':
		return r.layText(max(b-1, 0), 0, text, b)
	case 'c':
		return r.change(a, b, text)
	case 'd':
		return r.change(a, b, nil)
	case 'j':
		return r.join(a, b)
	case 'm':
		return r.move(x.Dest, a, b)
	case 't':
		return r.transfer(x.Dest, a, b)
	case 's':
		return r.substitute(x, a, b)
	case '>', '<':
		return r.shift(a, b, x.Name == '>')
	case 'P':
		return r.put(x.Letter, b)
	case 'Y':
		return r.core.Regs().Set(x.Letter, r.whole(a, b))
	case 'k':
		return r.core.Mark(x.Letter, b)
	case 'g', 'v':
		return r.global(x, a, b)
	}
	return r.say(x, a, b)
}

// splice is a part of the change.
func (r *run) splice(at, del int, ins []string) api.Errno {
	s := api.Splice{At: at, Del: del, Ins: ins}
	if e := r.core.Splice(s); e != api.OK {
		return e
	}
	r.left = still(r.left, s)
	return api.OK
}

// lay is a splice, the last line of which is the current one then.
func (r *run) lay(at, del int, ins []string) api.Errno {
	if e := r.splice(at, del, ins); e != api.OK {
		return e
	}
	return r.core.Go(at + len(ins))
}

// layText is a splice that may have no lines: then another line is the current one, or the last one that there is.
func (r *run) layText(at, del int, text []string, other int) api.Errno {
	if len(text) > 0 {
		return r.lay(at, del, text)
	}
	if e := r.splice(at, del, nil); e != api.OK {
		return e
	}
	return r.core.Go(min(other, r.core.N()))
}

// whole is lines as a register has them.
func (r *run) whole(a, b int) api.Reg {
	return api.Reg{Lines: r.core.Lines(a, b), Whole: true}
}
