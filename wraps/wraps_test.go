package wraps

import (
	"math"
	"slices"
	"strings"
	"testing"

	"inkhorn/api"
	"inkhorn/samples"
)

// checkLine holds a line's cells, and the bytes' places, against what they are to be.
func checkLine(t *testing.T, line, cells string, at ...int) {
	t.Helper()
	if got, places := Cells(line); got != cells || !slices.Equal(places, at) {
		t.Errorf("Cells(%q): %q, %v, not %q, %v", line, got, places, cells, at)
	}
}

// checkPlace holds where a byte is against where it is to be.
func checkPlace(t *testing.T, line string, cols, i, row, col int) {
	t.Helper()
	if r, c := At(line, cols, i); r != row || c != col {
		t.Errorf("At(%q, %d, %d): %d, %d, not %d, %d", line, cols, i, r, c, row, col)
	}
}

func TestExamples(t *testing.T) {
	checkLine(t, "a\tb", "a       b", 0, 1, 8, 9)
	checkLine(t, "\x01\x7f\xc8", `^A^?\310`, 0, 2, 4, 8)
	checkLine(t, "", "", 0)
	if n := Rows("abcdefgh", 4); n != 2 {
		t.Error(n)
	}
	if row := Row("abcdefgh", 4, 1); row != "efgh" {
		t.Errorf("%q", row)
	}
	checkPlace(t, "abcdefgh", 4, 4, 1, 0)
	checkPlace(t, "abcdefgh", 4, 8, 1, 3)
	checkPlace(t, "abcdefgh", 4, -1, 0, 0)
}

// P14.1: the first and the last byte of each way of being shown.
func TestBytes(t *testing.T) {
	checkLine(t, "\x00\x08", "^@^H", 0, 2, 4)
	checkLine(t, "\n\r\x1b\x1f", "^J^M^[^_", 0, 2, 4, 6, 8)
	checkLine(t, " ~", " ~", 0, 1, 2)
	checkLine(t, "~\x7f\x80", `~^?\200`, 0, 1, 3, 7)
	checkLine(t, "\xbf\xc0\xff", `\277\300\377`, 0, 4, 8, 12)
	checkLine(t, "é", `\303\251`, 0, 4, 8) // byte by byte: a rune is nothing of its own
	checkLine(t, `^?\310`, `^?\310`, 0, 1, 2, 3, 4, 5, 6)
}

// P14.1: a tab is one blank at least, and goes by the cells ahead of it, not by the bytes.
func TestTabs(t *testing.T) {
	for ahead, blanks := range []int{8, 7, 6, 5, 4, 3, 2, 1, 8, 7} {
		at := []int{}
		for i := range ahead + 1 {
			at = append(at, i)
		}
		x := strings.Repeat("x", ahead)
		checkLine(t, x+"\t", x+strings.Repeat(" ", blanks), append(at, ahead+blanks)...)
	}
	checkLine(t, "\t\ta", "                a", 0, 8, 16, 17)
	checkLine(t, "\x01\t\x7f", "^A      ^?", 0, 2, 8, 10)
	checkLine(t, "\xff\x80\t\x80\ta", `\377\200        \200    a`, 0, 4, 8, 16, 20, 24, 25)
}

// P14.1: rows: none is begun that has no cell, but that of a line without cells.
func TestRows(t *testing.T) {
	for _, x := range []struct {
		line string
		cols int
		rows []string
	}{
		{"", 1, []string{""}},
		{"", 8, []string{""}},
		{"a", 1, []string{"a"}},
		{"abc", 1, []string{"a", "b", "c"}},
		{"abc", 2, []string{"ab", "c"}},
		{"abc", 3, []string{"abc"}},
		{"abc", 4, []string{"abc"}},
		{"abcdefgh", 8, []string{"abcdefgh"}},
		{"abcdefghi", 8, []string{"abcdefgh", "i"}},
		{"\t", 8, []string{"        "}},
		{"\t", 3, []string{"   ", "   ", "  "}}, // a stop goes by the line's cells, not by the row's
		{"abcd\te", 5, []string{"abcd ", "   e"}},
		{"ab\x01\xc8", 3, []string{"ab^", `A\3`, "10"}}, // a byte's cells may lie in several rows
	} {
		if n := Rows(x.line, x.cols); n != len(x.rows) {
			t.Errorf("Rows(%q, %d): %d", x.line, x.cols, n)
		}
		for k, want := range x.rows {
			if row := Row(x.line, x.cols, k); row != want {
				t.Errorf("Row(%q, %d, %d): %q, not %q", x.line, x.cols, k, row, want)
			}
		}
		for _, k := range []int{-1, len(x.rows), len(x.rows) + 1} {
			if row := Row(x.line, x.cols, k); row != "" {
				t.Errorf("Row(%q, %d, %d): %q", x.line, x.cols, k, row)
			}
		}
	}
}

// P14.1: a row whose number, times the columns, goes round to that of one that there is.
func TestRowGoesRound(t *testing.T) {
	line := strings.Repeat("x", 1000)
	for _, x := range [][2]int{{1 << 32, 1 << 32}, {2, 1 << 62}, {4, 1 << 62}, {8, 1 << 61}, {8, 1<<61 + 1}, {16, 1<<60 + 3}, {1 << 62, 4}, {1<<62 + 1, 4}} {
		if row := Row(line, x[0], x[1]); row != "" {
			t.Errorf("Row of %d, %d: %.40q", x[0], x[1], row)
		}
	}
	for _, cols := range []int{1000, 1001, math.MaxInt32, 1 << 32, math.MaxInt - 1, math.MaxInt} {
		if row := Row(line, cols, 0); row != line {
			t.Errorf("Row of %d: %.40q", cols, row)
		}
		if row := Row(line, cols, 1); row != "" {
			t.Errorf("Row of %d: %.40q", cols, row)
		}
	}
}

// P14.2: the end is a byte's place behind the cells, but in a last row that is full.
func TestEnd(t *testing.T) {
	checkPlace(t, "", 1, 0, 0, 0)
	checkPlace(t, "", 8, 0, 0, 0)
	checkPlace(t, "", 8, 1, 0, 0)
	checkPlace(t, "", 8, -1, 0, 0)
	checkPlace(t, "abc", 1, 3, 2, 0)
	checkPlace(t, "abc", 2, 3, 1, 1)
	checkPlace(t, "abc", 3, 3, 0, 2)
	checkPlace(t, "abc", 4, 3, 0, 3)
	checkPlace(t, "abc", 5, 3, 0, 3)
	checkPlace(t, "\t", 8, 1, 0, 7)
	checkPlace(t, "\t", 4, 1, 1, 3)
	checkPlace(t, "\xff", 4, 99, 0, 3)
	checkPlace(t, "abcd\x01", 5, 5, 1, 1)
}

// P14.2: a byte is where its first cell is; a full row makes a difference to the end alone.
func TestPlaces(t *testing.T) {
	checkPlace(t, "ab\tc", 4, 2, 0, 2)
	checkPlace(t, "ab\tc", 4, 3, 2, 0)
	checkPlace(t, "abcd\x01e", 5, 4, 0, 4)
	checkPlace(t, "abcd\x01e", 5, 5, 1, 1)
	checkPlace(t, "abcde", 5, 4, 0, 4)
	checkPlace(t, "abcdef", 5, 5, 1, 0)
	checkPlace(t, "abc", 1, 1, 1, 0)
	checkPlace(t, "abcdefgh", 4, math.MinInt, 0, 0)
	checkPlace(t, "abcdefgh", 4, math.MaxInt, 1, 3)
	checkPlace(t, "abcdefgh", 5, 9, 1, 3)
}

// P14.1, P14.2: of columns below 1.
func TestNoColumns(t *testing.T) {
	for _, line := range []string{"", "a", "abcdefgh", "\t\x01\xff"} {
		for _, cols := range []int{0, -1, -2, -8, math.MinInt32, math.MinInt + 1, math.MinInt} {
			if n := Rows(line, cols); n != 0 {
				t.Errorf("Rows(%q, %d): %d", line, cols, n)
			}
			for _, k := range []int{math.MinInt, -1, 0, 1, 2, math.MaxInt} {
				if row := Row(line, cols, k); row != "" {
					t.Errorf("Row(%q, %d, %d): %q", line, cols, k, row)
				}
				checkPlace(t, line, cols, k, 0, 0)
			}
		}
	}
}

// P14.3: rows one behind the other are the cells; all but the last one are full, and that has a cell, if the line has one.
func TestRowsAreCells(t *testing.T) {
	for _, line := range samples.Texts("a\t\n\xc8", 5) {
		cells, _ := Cells(line)
		for cols := 1; cols <= 10; cols++ {
			all, n := "", Rows(line, cols)
			for k := range n {
				row := Row(line, cols, k)
				if len(row) > cols || k < n-1 && len(row) < cols || line != "" && row == "" {
					t.Errorf("Row(%q, %d, %d): %q", line, cols, k, row)
				}
				all += row
			}
			if all != cells {
				t.Errorf("%q in %d columns: %q, not %q", line, cols, all, cells)
			}
		}
	}
}

// P14.3: cells are bytes from 32 to 126, and places rise from 0 on to the end.
func TestPlacesRise(t *testing.T) {
	d := draw(41)
	for range 500 {
		line := d.line(d.below(60))
		cells, at := Cells(line)
		for i := range len(cells) {
			if cells[i] < 32 || cells[i] > 126 {
				t.Errorf("Cells(%q): %q", line, cells)
			}
		}
		if len(at) != len(line)+1 || at[0] != 0 || at[len(line)] != len(cells) {
			t.Fatalf("Cells(%q): %v", line, at)
		}
		for i := range len(line) {
			if at[i] >= at[i+1] {
				t.Errorf("Cells(%q): %v", line, at)
			}
		}
	}
}

// P14.3: what is behind a byte makes no difference to its place, what is ahead makes it.
func TestWhatIsBehind(t *testing.T) {
	ends := samples.Texts("b\t\x7f\xff", 2)
	for _, line := range samples.Texts("a\t\x00\x80", 4) {
		cells, at := Cells(line)
		for _, end := range ends {
			longer, places := Cells(line + end)
			if !strings.HasPrefix(longer, cells) || !slices.Equal(places[:len(at)], at) {
				t.Errorf("Cells(%q): %q, %v, not as %q, %v", line+end, longer, places, cells, at)
			}
			for cols := 1; cols <= 9 && end != ""; cols++ {
				row, col := At(line+end, cols, len(line))
				if row != len(cells)/cols || col != len(cells)%cols {
					t.Errorf("At(%q, %d, %d): %d, %d", line+end, cols, len(line), row, col)
				}
			}
		}
	}
}

// P14.1, P14.2: of any text, the longest line of a buffer and far longer ones among them.
func TestLong(t *testing.T) {
	for _, n := range []int{api.MaxBytes, api.MaxBytes + 1, 1 << 20} {
		line := strings.Repeat("\xff", n)
		if cells, at := Cells(line); len(cells) != 4*n || len(at) != n+1 || at[n] != 4*n {
			t.Errorf("%d: %d, %d", n, len(cells), len(at))
		}
		if got, want := Rows(line, 3), (4*n+2)/3; got != want {
			t.Errorf("%d: %d, not %d", n, got, want)
		}
		if row := Row(line, 2, 2*n-1); row != "77" {
			t.Errorf("%d: %q", n, row)
		}
		checkPlace(t, line, 4, n-1, n-1, 0)
		checkPlace(t, line, 4, n, n-1, 3)
	}
}

// R2, R4: an answer is new: what is done to it changes no other one.
func TestAnswersAreNew(t *testing.T) {
	const line = "a\tb"
	_, at := Cells(line)
	for i := range at {
		at[i] = -1
	}
	checkLine(t, line, "a       b", 0, 1, 8, 9)
	_, one := Cells(line)
	_, other := Cells(line)
	one[0] = 5
	if other[0] != 0 {
		t.Error(other)
	}
}
