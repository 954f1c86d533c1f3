package core

import (
	"inkhorn/api"
	"inkhorn/marks"
	"inkhorn/pieces"
)

// moment is what an undo brings back. One that is kept stays as it is, as a table never changes.
type moment struct {
	table *pieces.Table
	cur   int
	marks api.Marks
}

// behind is what comes of it by a splice.
func (m moment) behind(s api.Splice) (moment, api.Errno) {
	table, e := m.table.Splice(s.At, s.Del, s.Ins)
	if e != api.OK {
		return moment{}, e
	}
	cur, ok := marks.Line(m.cur, s)
	if !ok {
		cur = min(s.At+1, table.Len())
	}
	return moment{table: table, cur: cur, marks: marks.Shift(m.marks, s)}, api.OK
}

// lines is all lines that there are.
func (m moment) lines() []string {
	return m.table.Lines(1, m.table.Len())
}
