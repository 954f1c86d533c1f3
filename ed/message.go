package ed

import "inkhorn/api"

// Message is an error in words.
func Message(e api.Errno) string {
	switch e {
	case api.ErrLong:
		return "too long"
	case api.ErrNone:
		return "no such file"
	case api.ErrFull:
		return "no space"
	case api.ErrDown:
		return "no disk"
	case api.ErrPattern:
		return "bad pattern"
	case api.ErrFuel:
		return "pattern takes too long"
	case api.ErrRepl:
		return "bad replacement"
	case api.ErrNoRE:
		return "no pattern"
	case api.ErrAddress:
		return "bad address"
	case api.ErrSought:
		return "not found"
	case api.ErrMark:
		return "no such mark"
	case api.ErrDest:
		return "bad destination"
	case api.ErrCommand:
		return "unknown command"
	case api.ErrSuffix:
		return "bad suffix"
	case api.ErrGlobal:
		return "not in a global command"
	case api.ErrMatch:
		return "no match"
	case api.ErrUndo:
		return "nothing to undo"
	case api.ErrReg:
		return "nothing in register"
	case api.ErrName:
		return "no file name"
	case api.ErrDirty:
		return "not written"
	}
	return "error"
}
