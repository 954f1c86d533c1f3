package logs

import (
	"strings"

	"inkhorn/api"
	"inkhorn/frames"
	"inkhorn/nums"
	"inkhorn/splices"
)

// The letters with which payloads begin.
const (
	ofLines  = "b"
	ofChange = "c"
)

// putLines is the payload of the lines with which a journal begins.
func putLines(l []string) string {
	return ofLines + nums.PutList(l)
}

// putChange is the payload of a change, or the error of the first splice that may not be.
func putChange(l []api.Splice) (string, api.Errno) {
	var all []string
	for _, s := range l {
		text, e := splices.Encode(s)
		if e != api.OK {
			return "", e
		}
		all = append(all, text)
	}
	return ofChange + nums.PutList(all), api.OK
}

// read is the lines to which a journal's bytes lead, and behind how many changes; false, if these are no journal's.
func read(text string) (l []string, changes int, ok bool) {
	// What is torn stands behind the frames, and is as if it had not been begun.
	payloads, _ := frames.Whole(text)
	if len(payloads) == 0 {
		return nil, 0, false
	}
	first, ok := getLines(payloads[0])
	if !ok {
		return nil, 0, false
	}
	var all []api.Splice
	for _, p := range payloads[1:] {
		change, ok := getChange(p)
		if !ok {
			return nil, 0, false
		}
		all = append(all, change...)
	}
	l, ok = leadOn(first, all)
	if !ok {
		return nil, 0, false
	}
	return l, len(payloads) - 1, true
}

// leadOn is what comes of lines by the splices of all changes; false, if these do not lead on.
func leadOn(l []string, all []api.Splice) ([]string, bool) {
	// A journal may begin with longer lines, or more, than a buffer takes: no splice leads on from these, but without one they stand.
	if len(all) == 0 {
		return l, true
	}
	// All at once, so that lines that no splice touches are not checked again and again.
	l, e := splices.All(l, all)
	return l, e == api.OK
}

// getLines is the lines of which this is the payload.
func getLines(payload string) ([]string, bool) {
	l, ok := getList(payload, ofLines)
	// Around its texts a list has no byte 10, so that one of them has what the payload has.
	if !ok || strings.Contains(payload, "\n") {
		return nil, false
	}
	return l, true
}

// getChange is the change of which this is the payload.
func getChange(payload string) ([]api.Splice, bool) {
	texts, ok := getList(payload, ofChange)
	if !ok || len(texts) == 0 {
		return nil, false
	}
	var change []api.Splice
	for _, text := range texts {
		s, e := splices.Decode(text)
		if e != api.OK {
			return nil, false
		}
		change = append(change, s)
	}
	return change, true
}

// getList is the list of which a payload is, behind its letter, the bytes, and nothing else.
func getList(payload, letter string) ([]string, bool) {
	rest, ok := strings.CutPrefix(payload, letter)
	if !ok {
		return nil, false
	}
	l, next, ok := nums.GetList(rest, 0)
	if !ok || next != len(rest) {
		return nil, false
	}
	return l, true
}
