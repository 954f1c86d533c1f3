package logs

import (
	"errors"

	"inkhorn/api"
)

// act is something that a file system is asked to do.
type act string

// The acts in which a file system may tell an error.
const (
	removing  act = "remove"
	appending act = "append"
	syncing   act = "sync"
	renaming  act = "rename"
	reading   act = "read"
)

// trouble is an error that a file system told, with the act in which it was.
type trouble struct {
	in  act
	err error
}

// Error tells both.
func (t trouble) Error() string { return "logs: " + string(t.in) + ": " + t.err.Error() }

// Unwrap is what the file system told.
func (t trouble) Unwrap() error { return t.err }

// told is what a file system told in an act, as an error, or nil.
func told(in act, e api.Errno) error {
	if e == api.OK {
		return nil
	}
	return trouble{in: in, err: e}
}

// hinders tells whether an error stands against what is to be done next. What is to be removed may lack; what is to be synced, or renamed, may not.
func hinders(err error) bool {
	var t trouble
	if errors.As(err, &t) && t.in == removing {
		return !errors.Is(t, api.ErrNone)
	}
	return err != nil
}

// number is what of an error is told to who called.
func number(err error) api.Errno {
	var e api.Errno
	if errors.As(err, &e) {
		return e
	}
	return api.OK
}
