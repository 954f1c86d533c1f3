package ed

import (
	"inkhorn/api"
	"inkhorn/cmds"
	"inkhorn/disk"
	"inkhorn/runs"
)

// command takes a line as a command.
func (d *Ed) command(line string) (out string, l []api.Splice, e api.Errno) {
	x, e := cmds.Parse(line)
	switch {
	case e != api.OK:
		return "", nil, e
	case x.Name == 'h':
		out, e = d.explain(x)
		return out, nil, e
	case cmds.Text(x):
		d.text = &text{asked: x}
		return "", nil, api.OK
	}
	return d.do(x, nil)
}

// take takes a line as one of text, or as the end of these.
func (d *Ed) take(line string) (out string, l []api.Splice, e api.Errno) {
	if line != textEnd {
		d.text.lines = append(d.text.lines, line)
		return "", nil, api.OK
	}
	whole := *d.text
	d.text = nil
	return d.do(whole.asked, whole.lines)
}

// do does a command, with the lines of text that came behind it.
func (d *Ed) do(x api.Cmd, lines []string) (out string, l []api.Splice, e api.Errno) {
	if disk.Mine(x) {
		out, l, e = d.doWithFiles(x)
	} else {
		out, l, e = runs.Run(d.core, x, lines)
	}
	if e == api.OK {
		d.warned = false
	}
	return out, l, e
}

// doWithFiles does a command with files, by which the editor may have another buffer, or be at its end.
func (d *Ed) doWithFiles(x api.Cmd) (out string, l []api.Splice, e api.Errno) {
	r, e := disk.Run(d.core, d.disk, d.name, x, d.warned)
	if e != api.OK {
		return "", nil, e
	}
	d.core, d.name, d.ended, d.turned = r.Core, r.Name, r.End, r.Wrote || r.Anew
	return r.Out, r.Change, api.OK
}

// explain is the error that was told last, in words.
func (d *Ed) explain(x api.Cmd) (string, api.Errno) {
	switch {
	case len(x.Range.List) > 0:
		return "", api.ErrAddress
	case d.told == api.OK:
		return "", api.OK
	}
	return Message(d.told) + "\n", api.OK
}

// tell tells an error.
func (d *Ed) tell(e api.Errno) string {
	d.told, d.warned = e, e == api.ErrDirty
	if d.loud {
		return Message(e) + "\n"
	}
	return "?\n"
}
