package vt

import (
	"math/big"
	"regexp"
	"strings"
	"testing"

	"inkhorn/api"
	"inkhorn/grids"
	"inkhorn/samples"
)

// What is written is made of these, the first ones first: escapes with a command, escapes that end otherwise or not at
// all, and bytes. Each byte stands there as the rune of its number.
var (
	parts   = regexp.MustCompile(`(?s)\x1b\[([ -?]*)([@-~])|\x1b\[[ -?]*[^ -~\x1b]?|\x1b[^\x1b]?|.`)
	alone   = regexp.MustCompile(`^([0-9]*)$`)
	twoSome = regexp.MustCompile(`^([0-9]*)(?:;([0-9]*))?$`)
)

// plain is a screen by the document's words: its rows as texts, the cursor's place counted from 0 on.
type plain struct {
	rows     []string
	row, col int
}

// plainGrid tells by the document's words what a terminal shows that showed a grid, and is written to.
func plainGrid(g api.Grid, written string) api.Grid {
	runes := make([]rune, len(written))
	for i := range runes {
		runes[i] = rune(written[i])
	}
	p := plain{grids.Text(g), g.Row, g.Col}
	for _, part := range parts.FindAllStringSubmatch(string(runes), -1) {
		switch {
		case part[2] != "":
			p.command(part[2], part[1])
		case part[0][0] != 27:
			p.byte([]rune(part[0])[0])
		}
	}
	g.Row, g.Col, g.Cells = p.row, p.col, nil
	for _, row := range p.rows {
		g.Cells = append(g.Cells, []byte(row))
	}
	return g
}

func (p *plain) lastRow() int { return len(p.rows) - 1 }

func (p *plain) lastCol() int { return len(p.rows[0]) - 1 }

func (p *plain) byte(c rune) {
	switch {
	case c >= 32 && c <= 126:
		row := p.rows[p.row]
		p.rows[p.row] = row[:p.col] + string(c) + row[p.col+1:]
		if p.col != p.lastCol() {
			p.col++
		}
	case c == 13:
		p.col = 0
	case c == 10 && p.row != p.lastRow():
		p.row++
	case c == 10:
		p.rows = append(p.rows[1:], blanks(p.lastCol()+1))
	case c == 8 && p.col > 0:
		p.col--
	}
}

func (p *plain) command(name, params string) {
	form := alone
	if name == "H" {
		form = twoSome
	}
	numbers := form.FindStringSubmatch(params)
	if numbers == nil {
		return
	}
	n := plainNumber(numbers[1])
	switch name {
	case "H":
		p.row = min(max(1, n)-1, p.lastRow())
		p.col = min(max(1, plainNumber(numbers[2]))-1, p.lastCol())
	case "A", "B", "C", "D":
		for range max(1, n) {
			p.step(name)
		}
	case "J":
		for i := range p.rows {
			if n == 2 || n == 0 && i > p.row {
				p.rows[i] = blanks(p.lastCol() + 1)
			}
		}
		p.wipeRow(n)
	case "K":
		p.wipeRow(n)
	}
}

func (p *plain) step(name string) {
	switch {
	case name == "A" && p.row > 0:
		p.row--
	case name == "B" && p.row < p.lastRow():
		p.row++
	case name == "C" && p.col < p.lastCol():
		p.col++
	case name == "D" && p.col > 0:
		p.col--
	}
}

func (p *plain) wipeRow(n int) {
	from := map[int]int{0: p.col, 2: 0}
	if at, ok := from[n]; ok {
		p.rows[p.row] = p.rows[p.row][:at] + blanks(p.lastCol()+1-at)
	}
}

func plainNumber(digits string) int {
	n, ok := new(big.Int).SetString("0"+digits, 10)
	if !ok {
		panic(digits)
	}
	if n.Cmp(big.NewInt(9999)) > 0 {
		return 9999
	}
	return int(n.Int64())
}

func blanks(n int) string { return strings.Repeat(" ", n) }

// checkPlain holds what a terminal shows against these words: one that is full of letters, its cursor at a place.
func checkPlain(t *testing.T, rows, cols, row, col int, written string) {
	t.Helper()
	v := full(t, rows, cols, row, col)
	want := plainGrid(v.Grid(), written)
	feed(t, v, written)
	checkGrid(t, written, v.Grid(), want)
}

// P13.1: all short texts of what means something.
func TestAllShort(t *testing.T) {
	for _, written := range samples.Texts("\x1b[12;HJKA\nx", 5) {
		checkPlain(t, 3, 8, 1, 3, written)
	}
	for _, written := range samples.Texts("\x1b[0?\x7f\x80K\r", 6) {
		checkPlain(t, 2, 8, 1, 7, written)
	}
	for _, written := range samples.Texts("ab\n\r\b", 7) {
		checkPlain(t, 2, 8, 0, 6, written)
	}
}

// P13.1: all short escapes.
func TestAllEscapes(t *testing.T) {
	for _, params := range samples.Texts("0123;9 ?", 4) {
		for _, command := range "HABCDJKLm@~\x7f" {
			checkPlain(t, 3, 9, 1, 4, "\x1b["+params+string(command)+"x")
		}
	}
	for _, params := range samples.Texts("02;", 8) {
		for _, command := range "HCJK" {
			checkPlain(t, 3, 9, 2, 4, "\x1b["+params+string(command)+"x")
		}
	}
}

// draw is a row of numbers that looks like one by chance.
type draw uint64

func (d *draw) below(n int) int {
	*d = *d*6364136223846793005 + 1442695040888963407
	return int(uint64(*d)>>33) % n
}

// written is a text of bytes, commands, and beginnings of escapes.
func (d *draw) written(most int) string {
	var b strings.Builder
	for range d.below(most + 1) {
		switch d.below(12) {
		case 0, 1, 2:
			b.WriteByte(byte(32 + d.below(95)))
		case 3:
			b.WriteByte("\n\r\b\n"[d.below(4)])
		case 4:
			b.WriteByte(byte(d.below(256)))
		case 5:
			b.WriteString("\x1b[")
		case 6:
			b.WriteByte("\x1b[;?0123456789"[d.below(14)])
		default:
			b.WriteString("\x1b[" + d.params() + string("HHHABCDJK"[d.below(9)]))
		}
	}
	return b.String()
}

// params is an escape's parameters, most of which go with a command.
func (d *draw) params() string {
	numbers := []string{"", "", "0", "1", "2", "2", "3", "5", "8", "11", "60", "132", "00", "02", "9999", "10002", "4294967298", "?2"}
	all := numbers[d.below(len(numbers))]
	for d.below(3) == 0 {
		all += ";" + numbers[d.below(len(numbers))]
	}
	return all
}

// P13.1, P13.2: drawn texts, in sizes of all kinds, in pieces.
func TestDrawn(t *testing.T) {
	d := draw(13)
	sizes := [][2]int{{2, 8}, {2, 132}, {60, 8}, {60, 132}, {3, 9}, {24, 80}, {5, 10}}
	for i := range 8000 {
		size := sizes[i%len(sizes)]
		v := full(t, size[0], size[1], d.below(size[0]), d.below(size[1]))
		was, all := v.Grid(), ""
		for range 1 + d.below(4) {
			written := d.written(12)
			all += written
			feed(t, v, written)
			checkGrid(t, all, v.Grid(), plainGrid(was, all))
		}
	}
}

// P13.1, P13.2: long drawn texts.
func TestDrawnLong(t *testing.T) {
	d := draw(31)
	for _, size := range [][2]int{{2, 8}, {24, 80}, {60, 132}} {
		v := full(t, size[0], size[1], 1, 7)
		was, written := v.Grid(), d.written(20000)
		feed(t, v, written)
		checkGrid(t, "long", v.Grid(), plainGrid(was, written))
	}
}
