package wraps

import (
	"fmt"
	"math"
	"slices"
	"strings"
	"testing"

	"inkhorn/samples"
)

// plain is a line as it is shown by the document's words: each byte's cells, all of them, and the bytes' places.
type plain struct {
	parts []string
	cells string
	at    []int
}

func plainLine(line string) plain {
	p := plain{at: []int{0}}
	for _, b := range []byte(line) {
		part := ""
		switch {
		case b == 9:
			part = " "
			for (len(p.cells)+len(part))%8 != 0 {
				part += " "
			}
		case b < 32:
			part = "^" + string(rune(b+64))
		case b == 127:
			part = "^?"
		case b > 127:
			part = fmt.Sprintf(`\%03o`, b)
		default:
			part = string(rune(b))
		}
		p.parts = append(p.parts, part)
		p.cells += part
		p.at = append(p.at, len(p.cells))
	}
	return p
}

// rows lays cells one by one into rows of so many columns.
func (p plain) rows(cols int) []string {
	all := []string{""}
	for i := range p.cells {
		last := &all[len(all)-1]
		if len(*last) == cols {
			all = append(all, "")
			last = &all[len(all)-1]
		}
		*last += p.cells[i : i+1]
	}
	return all
}

// places tells where the bytes, and the end, are in rows of so many columns.
func (p plain) places(cols int) [][2]int {
	var cells, all [][2]int
	for row, r := range p.rows(cols) {
		for col := range r {
			cells = append(cells, [2]int{row, col})
		}
	}
	for i := range p.parts {
		all = append(all, cells[p.at[i]])
	}
	end := [2]int{}
	if len(cells) > 0 {
		end = cells[len(cells)-1]
		if end[1] != cols-1 {
			end[1]++
		}
	}
	return append(all, end)
}

// far are numbers far from all lengths, products of which may go round.
var far = []int{math.MaxInt, math.MaxInt - 1, math.MaxInt/2 + 1, math.MaxInt32, 1 << 32, 1<<32 + 1, 1 << 62, 1<<63 - 1<<32}

// checkCells holds a line's cells, and the bytes' places, against these words.
func checkCells(t *testing.T, line string, p plain) {
	t.Helper()
	cells, at := Cells(line)
	if cells != p.cells || !slices.Equal(at, p.at) {
		t.Errorf("Cells(%.80q): %.80q, %v, not %.80q, %v", line, cells, at, p.cells, p.at)
	}
}

// checkRows holds a line's rows, of so many columns, and those that it has not, against these words.
func checkRows(t *testing.T, line string, p plain, cols int) {
	t.Helper()
	want := p.rows(cols)
	if n := Rows(line, cols); n != len(want) {
		t.Errorf("Rows(%.80q, %d): %d, not %d", line, cols, n, len(want))
	}
	for k, row := range want {
		if got := Row(line, cols, k); got != row {
			t.Errorf("Row(%.80q, %d, %d): %.80q, not %.80q", line, cols, k, got, row)
		}
	}
	n := len(want)
	for _, k := range append([]int{n, n + 1, 2 * n, -1, -2, -n, math.MinInt}, far...) {
		if got := Row(line, cols, k); got != "" {
			t.Errorf("Row(%.80q, %d, %d): %.80q", line, cols, k, got)
		}
	}
}

// checkAt holds where bytes are, in so many columns, and numbers that no byte has, against these words.
func checkAt(t *testing.T, line string, p plain, cols int) {
	t.Helper()
	want := p.places(cols)
	check := func(i int, place [2]int) {
		if row, col := At(line, cols, i); row != place[0] || col != place[1] {
			t.Errorf("At(%.80q, %d, %d): %d, %d, not %v", line, cols, i, row, col, place)
		}
	}
	for i, place := range want {
		check(i, place)
	}
	n := len(line)
	for _, i := range append([]int{n + 1, n + 2, n + 8, n + 256}, far...) {
		check(i, want[n])
	}
	for _, i := range []int{-1, -2, -n - 1, -256, math.MinInt32, math.MinInt + 1, math.MinInt} {
		check(i, want[0])
	}
}

// checkPlain holds all that is told of a line against these words, in columns up to so many, and in some more.
func checkPlain(t *testing.T, line string, most int) {
	t.Helper()
	p := plainLine(line)
	checkCells(t, line, p)
	n := len(p.cells)
	for cols := 1; cols <= most; cols++ {
		checkRows(t, line, p, cols)
		checkAt(t, line, p, cols)
	}
	for _, cols := range append([]int{n - 1, n, n + 1, 132}, far...) {
		if cols > most {
			checkRows(t, line, p, cols)
			checkAt(t, line, p, cols)
		}
	}
}

// P14.1, P14.2: all short lines of one byte of each way of being shown.
func TestAllShort(t *testing.T) {
	for _, line := range samples.Texts("a\t\x1b\x7f\x80", 5) {
		checkPlain(t, line, 9)
	}
	for _, line := range samples.Texts("\t~\xff", 7) {
		checkPlain(t, line, 8)
	}
}

// P14.1, P14.2: all bytes, behind each number of cells up to beyond two stops of a tab, and ahead of others.
func TestAllBytes(t *testing.T) {
	for b := range 256 {
		for n := range 18 {
			checkPlain(t, strings.Repeat("x", n)+string([]byte{byte(b)})+"y\tz", 9)
		}
	}
}

// draw is a row of numbers that looks like one by chance.
type draw uint64

func (d *draw) below(n int) int {
	*d = *d*6364136223846793005 + 1442695040888963407
	return int(uint64(*d)>>33) % n
}

// line is a text of so many bytes: any, or many of those that are shown otherwise than by themselves.
func (d *draw) line(n int) string {
	var b strings.Builder
	for range n {
		switch d.below(4) {
		case 0:
			b.WriteByte(byte(d.below(256)))
		case 1:
			b.WriteByte("\t\x00\x1f\n\x7f\x80\xff\t"[d.below(8)])
		default:
			b.WriteByte(byte(32 + d.below(95)))
		}
	}
	return b.String()
}

// P14.1, P14.2: drawn lines, up to the longest one of a buffer, and beyond.
func TestDrawn(t *testing.T) {
	d := draw(14)
	for range 3000 {
		checkPlain(t, d.line(d.below(40)), 12)
	}
	for _, n := range []int{999, 1000, 1001, 3000} {
		line := d.line(n)
		p := plainLine(line)
		checkCells(t, line, p)
		for _, cols := range []int{1, 7, 8, 9, 80, 131, 132, 1000} {
			checkRows(t, line, p, cols)
			checkAt(t, line, p, cols)
		}
	}
}
