package disk

import (
	"strconv"

	"inkhorn/addr"
	"inkhorn/api"
	"inkhorn/core"
	"inkhorn/files"
	"inkhorn/lines"
	"inkhorn/saves"
)

// command is a command that is being done, with its result as far as that is known.
type command struct {
	Result
	disk  *files.FS
	asked api.Cmd
	force bool // a buffer that was changed may be lost
}

// do does what a command's name says.
func (d *command) do() api.Errno {
	switch d.asked.Name {
	case 'E':
		d.force = true
		fallthrough
	case 'e':
		return d.edit()
	case 'r':
		return d.read()
	case 'w', 'W':
		return d.write()
	case 'f':
		return d.call()
	case 'Q':
		d.force = true
		fallthrough
	default:
		return d.quit()
	}
}

// edit takes a file's lines as a new buffer.
func (d *command) edit() api.Errno {
	if d.hasAddresses() {
		return api.ErrAddress
	}
	file, e := d.meant()
	if e != api.OK {
		return e
	}
	if d.wouldLose() {
		return api.ErrDirty
	}
	l, size, e := d.load(file)
	if e != api.OK {
		return e
	}
	c, e := core.New(l)
	if e != api.OK {
		return e
	}
	d.Core, d.Name, d.Anew = c, file, true
	d.tell(size)
	return api.OK
}

// read lays a file's lines behind a line.
func (d *command) read() api.Errno {
	_, line, n, e := d.said()
	if e != api.OK {
		return e
	}
	if n == 0 {
		line = d.Core.N()
	}
	file, e := d.meant()
	if e != api.OK {
		return e
	}
	l, size, e := d.load(file)
	if e != api.OK {
		return e
	}
	if e := d.lay(line, l); e != api.OK {
		return e
	}
	d.christen(file)
	d.tell(size)
	return api.OK
}

// lay lays lines behind a line, as a change, even where there are none.
func (d *command) lay(line int, l []string) api.Errno {
	if e := d.Core.Begin(); e != api.OK {
		return e // The change that has begun is somebody else's, so nothing of it is left undone.
	}
	e := d.Core.Splice(api.Splice{At: line, Ins: l})
	if e == api.OK {
		e = d.Core.Go(line + len(l))
	}
	if e != api.OK {
		d.Core.Abort()
		return e
	}
	d.Change = d.Core.End()
	return api.OK
}

// write makes lines a file, or lays them behind what it has.
func (d *command) write() api.Errno {
	a, b, e := d.chosen()
	if e != api.OK {
		return e
	}
	file, e := d.meant()
	if e != api.OK {
		return e
	}
	ahead, e := d.ahead(file)
	if e != api.OK {
		return e
	}
	text := lines.Join(d.Core.Lines(a, b))
	if e := saves.Write(d.disk, file, ahead+text); e != api.OK {
		return e
	}
	d.christen(file)
	d.tell(len(text))
	// Behind the christening, as a file that gave its name is the buffer's own, too.
	if d.asked.Name == 'w' && a == 1 && b == d.Core.N() && file == d.Name {
		d.Core.Clean()
		d.Wrote = true
	}
	return api.OK
}

// chosen are the lines that are to be written, from a to b: all of them, unless there are addresses.
func (d *command) chosen() (a, b int, e api.Errno) {
	a, b, n, e := d.said()
	switch {
	case e != api.OK:
		return 0, 0, e
	case n == 0:
		return 1, d.Core.N(), api.OK
	case a == 0:
		return 0, 0, api.ErrAddress
	}
	return a, b, api.OK
}

// ahead is what is to stand in a file ahead of the lines that are written.
func (d *command) ahead(file string) (string, api.Errno) {
	if d.asked.Name != 'W' {
		return "", api.OK
	}
	text, e := saves.Load(d.disk, file)
	if e == api.ErrNone {
		return "", api.OK
	}
	return text, e
}

// call makes a file's name the editor's, and tells it.
func (d *command) call() api.Errno {
	if d.hasAddresses() {
		return api.ErrAddress
	}
	file, e := d.meant()
	if e != api.OK {
		return e
	}
	d.Name = file
	d.Out = file + "\n"
	return api.OK
}

// quit ends the editor.
func (d *command) quit() api.Errno {
	if d.hasAddresses() {
		return api.ErrAddress
	}
	if d.wouldLose() {
		return api.ErrDirty
	}
	d.End = true
	return api.OK
}

func (d *command) hasAddresses() bool { return len(d.asked.Range.List) > 0 }

// wouldLose tells whether the buffer has what is not written, and may not be lost.
func (d *command) wouldLose() bool { return d.Core.Dirty() && !d.force }

// said are the lines that the command's range says, and how many addresses it has, 2 at most.
func (d *command) said() (a, b, n int, e api.Errno) {
	a, b, n, last, e := addr.Eval(d.Core.View(), d.asked.Range)
	if e != api.OK {
		return 0, 0, 0, e
	}
	d.Core.Last(last)
	return a, b, n, api.OK
}

// meant is the name of the file that the command means.
func (d *command) meant() (string, api.Errno) {
	file := d.asked.Name2
	if file == "" {
		file = d.Name
	}
	if !Name(file) {
		return "", api.ErrName
	}
	return file, api.OK
}

// load is a file's lines, and how many bytes it has.
func (d *command) load(file string) (l []string, size int, e api.Errno) {
	text, e := saves.Load(d.disk, file)
	if e != api.OK {
		return nil, 0, e
	}
	l, _ = lines.Split(text)
	if e := lines.Check(l); e != api.OK {
		return nil, 0, e
	}
	return l, len(text), api.OK
}

// christen gives the editor a file's name, if it had none.
func (d *command) christen(file string) {
	if d.Name == "" {
		d.Name = file
	}
}

// tell tells a number.
func (d *command) tell(n int) { d.Out = strconv.Itoa(n) + "\n" }
