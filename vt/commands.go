package vt

// maxNumber is what a greater number of an escape counts as.
const maxNumber = 9999

// params is what an escape's parameters come to, so that they need not be kept. A number that is missing is 0: no
// command tells these apart.
type params struct {
	numbers [2]int
	last    int  // the place of the number to which digits belong
	spoilt  bool // they are more than two numbers, or no numbers: no command goes with such
}

// take takes the next byte of an escape's parameters.
func (p *params) take(c byte) {
	switch {
	case '0' <= c && c <= '9':
		n := &p.numbers[p.last]
		*n = min(*n*10+int(c-'0'), maxNumber)
	case c == ';' && p.last == 0:
		p.last = 1
	default:
		p.spoilt = true
	}
}

// obey does what an escape's command says, if it is one, and the parameters go with it.
func (v *VT) obey(command byte) {
	p := v.params
	if p.spoilt || p.last > 0 && command != 'H' {
		return
	}
	g, n := &v.grid, p.numbers[0]
	steps := max(n, 1)
	switch command {
	case 'H':
		g.Row = min(max(n, 1), g.Rows) - 1
		g.Col = min(max(p.numbers[1], 1), g.Cols) - 1
	case 'A':
		g.Row = max(g.Row-steps, 0)
	case 'B':
		g.Row = min(g.Row+steps, g.Rows-1)
	case 'C':
		g.Col = min(g.Col+steps, g.Cols-1)
	case 'D':
		g.Col = max(g.Col-steps, 0)
	case 'J':
		v.wipeScreen(n)
	case 'K':
		v.wipeRow(n)
	}
}

// The numbers of commands that wipe.
const (
	fromCursor = 0
	whole      = 2
)

// wipeScreen makes all cells blanks, or those from the cursor on.
func (v *VT) wipeScreen(n int) {
	switch n {
	case fromCursor:
		v.wipeRow(n)
		wipe(v.grid.Cells[v.grid.Row+1:]...)
	case whole:
		wipe(v.grid.Cells...)
	}
}

// wipeRow makes the cells of the cursor's row blanks, or those from the cursor on.
func (v *VT) wipeRow(n int) {
	row := v.grid.Cells[v.grid.Row]
	switch n {
	case fromCursor:
		wipe(row[v.grid.Col:])
	case whole:
		wipe(row)
	}
}

// wipe makes cells blanks.
func wipe(rows ...[]byte) {
	for _, row := range rows {
		for i := range row {
			row[i] = blank
		}
	}
}
