package core

import (
	"slices"

	"inkhorn/api"
	"inkhorn/regs"
)

// mostPieces is in how many pieces a table stands at most while a change is done.
const mostPieces = 64

// change is a change that has begun.
type change struct {
	ahead   moment     // as the buffer stood ahead of it
	regs    *regs.Regs // what its registers had then
	splices []api.Splice
}

// Begin begins a change.
func (c *Core) Begin() api.Errno {
	if c.isNone() {
		return api.ErrNil
	}
	if c.begun != nil {
		return api.ErrArg
	}
	c.begun = &change{ahead: c.moment, regs: c.regs.Clone()}
	return api.OK
}

// Splice is a part of a change.
func (c *Core) Splice(s api.Splice) api.Errno {
	if c.isNone() {
		return api.ErrNil
	}
	if c.begun == nil {
		return api.ErrArg
	}
	behind, e := c.behind(s)
	if e != api.OK {
		return e
	}
	// In many pieces each splice to come would take longer.
	if behind.table.Pieces() > mostPieces {
		behind.table = behind.table.Compact()
	}
	c.moment = behind
	s.Ins = slices.Clone(s.Ins)
	c.begun.splices = append(c.begun.splices, s)
	return api.OK
}

// End ends a change: what it was.
func (c *Core) End() []api.Splice {
	if c.isNone() || c.begun == nil {
		return nil
	}
	ahead, splices := c.begun.ahead, c.begun.splices
	c.begun = nil
	if len(splices) == 0 {
		return nil
	}
	// In its pieces a table would go on keeping lines that are gone.
	c.table = c.table.Compact()
	c.back = &ahead
	c.dirty = true
	return splices
}

// Abort leaves a change undone, registers and all.
func (c *Core) Abort() {
	if c.isNone() || c.begun == nil {
		return
	}
	c.moment = c.begun.ahead
	// Whoever was handed the registers still has them, so these themselves go back. (Those that were made none from outside have no clone.)
	if kept := c.begun.regs; kept != nil {
		*c.regs = *kept
	}
	c.begun = nil
}

// Undo goes back behind the last change, or on again.
func (c *Core) Undo() ([]api.Splice, api.Errno) {
	if c.isNone() {
		return nil, api.ErrNil
	}
	if c.begun != nil {
		return nil, api.ErrArg
	}
	if c.back == nil {
		return nil, api.ErrUndo
	}
	gone := c.table.Len()
	c.moment, *c.back = *c.back, c.moment
	c.dirty = true
	return []api.Splice{{Del: gone, Ins: c.lines()}}, api.OK
}
