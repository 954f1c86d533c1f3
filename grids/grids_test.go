package grids

import (
	"bytes"
	"math"
	"slices"
	"strconv"
	"strings"
	"testing"

	"inkhorn/api"
)

// made is a new grid.
func made(t *testing.T, rows, cols int) api.Grid {
	t.Helper()
	g, e := New(rows, cols)
	if e != api.OK {
		t.Fatalf("New(%d, %d): %v", rows, cols, e)
	}
	return g
}

// gridOf is a grid of some rows, written down, its cursor at a place.
func gridOf(row, col int, rows ...string) api.Grid {
	g := api.Grid{Rows: len(rows), Cols: len(rows[0]), Row: row, Col: col}
	for _, cells := range rows {
		g.Cells = append(g.Cells, []byte(cells))
	}
	return g
}

// checkGrid holds a grid against what it is to be, number by number and cell by cell.
func checkGrid(t *testing.T, what string, got, want api.Grid) {
	t.Helper()
	if got.Rows != want.Rows || got.Cols != want.Cols || got.Row != want.Row || got.Col != want.Col {
		t.Errorf("%s: %d, %d, cursor %d, %d, not %d, %d, cursor %d, %d", what,
			got.Rows, got.Cols, got.Row, got.Col, want.Rows, want.Cols, want.Row, want.Col)
	}
	if len(got.Cells) != len(want.Cells) {
		t.Errorf("%s: %d rows of cells, not %d", what, len(got.Cells), len(want.Cells))
		return
	}
	for i := range want.Cells {
		if !bytes.Equal(got.Cells[i], want.Cells[i]) {
			t.Errorf("%s: row %d is %q, not %q", what, i, got.Cells[i], want.Cells[i])
		}
	}
}

// checkText holds a grid's text against what it is to be.
func checkText(t *testing.T, g api.Grid, want ...string) {
	t.Helper()
	if got := Text(g); !slices.Equal(got, want) {
		t.Errorf("%q, not %q", got, want)
	}
}

// spoil makes all cells other ones, and those that might stand behind a row's cells.
func spoil(g api.Grid) {
	for _, row := range g.Cells {
		whole := row[:cap(row)]
		for i := range whole {
			whole[i] ^= 0x80
		}
	}
	for i := range g.Cells {
		g.Cells[i] = nil
	}
}

const eight = "        "

func TestExamples(t *testing.T) {
	g := made(t, 2, 8)
	checkText(t, g, eight, eight)
	for _, size := range [][2]int{{1, 8}, {2, 133}} {
		x, e := New(size[0], size[1])
		if e != api.ErrArg {
			t.Errorf("New of %v: %v", size, e)
		}
		checkGrid(t, "with an error", x, api.Grid{})
	}
	checkText(t, Put(g, 1, 3, 'x'), eight, "   x    ")
	checkText(t, Put(g, 2, 0, 'x'), eight, eight)
	checkText(t, Put(g, 0, 0, 10), eight, eight)
	checkText(t, g, eight, eight)
}

// numbersAround are those of a size's limits, and next to them, and far ones.
func numbersAround(low, high int) []int {
	far := []int{math.MinInt, math.MinInt32, -low, -1, 0, 1, low - 1, high + 1, 2 * high, 255, 256, math.MaxInt32, 1 << 32, math.MaxInt}
	for n := low; n <= high; n++ {
		far = append(far, n)
	}
	return far
}

// P12.1: each size that there may be, and those around.
func TestNew(t *testing.T) {
	for _, rows := range numbersAround(2, 60) {
		for _, cols := range numbersAround(8, 132) {
			g, e := New(rows, cols)
			if rows < 2 || 60 < rows || cols < 8 || 132 < cols {
				if e != api.ErrArg || g.Cells != nil || g.Rows != 0 || g.Cols != 0 || g.Row != 0 || g.Col != 0 {
					t.Errorf("New(%d, %d): %v %v", rows, cols, g, e)
				}
				continue
			}
			want := api.Grid{Rows: rows, Cols: cols, Cells: slices.Repeat([][]byte{bytes.Repeat([]byte{32}, cols)}, rows)}
			checkGrid(t, "New", g, want)
			if e != api.OK || Check(g) != api.OK {
				t.Errorf("New(%d, %d): %v %v", rows, cols, e, Check(g))
			}
		}
	}
}

// P12.1, R2: a new grid's rows are apart from each other, and from those of the next one.
func TestNewIsApart(t *testing.T) {
	for _, size := range [][2]int{{2, 8}, {3, 9}, {60, 132}} {
		for row := range size[0] {
			g, blank := made(t, size[0], size[1]), made(t, size[0], size[1])
			for i := range g.Cells[row] {
				g.Cells[row][i] = 'x'
			}
			g.Cells[row] = append(g.Cells[row], "yyyyyyyyyyyy"...)
			for i := range g.Cells {
				want := strings.Repeat(" ", size[1])
				if i == row {
					want = strings.Repeat("x", size[1]) + "yyyyyyyyyyyy"
				}
				if string(g.Cells[i]) != want {
					t.Errorf("%v, with row %d another one: row %d is %q", size, row, i, g.Cells[i])
				}
			}
			checkGrid(t, "another new one", made(t, size[0], size[1]), blank)
		}
	}
}

// P12.1: what may be, at its edges.
func TestCheckOfGood(t *testing.T) {
	for _, size := range [][2]int{{2, 8}, {2, 132}, {60, 8}, {60, 132}, {3, 9}, {24, 80}} {
		g := made(t, size[0], size[1])
		for row := range g.Rows {
			for col := range g.Cols {
				g.Row, g.Col = row, col
				g.Cells[row][col] = byte(32 + (row*g.Cols+col)%95)
				if e := Check(g); e != api.OK {
					t.Errorf("%v, cursor %d, %d: %v", size, row, col, e)
				}
			}
		}
	}
	row := []byte("abcdefgh") // Rows may be the same memory.
	if e := Check(api.Grid{Rows: 2, Cols: 8, Cells: [][]byte{row, row}}); e != api.OK {
		t.Error(e)
	}
	wide := bytes.Repeat([]byte{10}, 20) // What stands behind a row's cells is none of them.
	copy(wide, "abcdefgh")
	if e := Check(api.Grid{Rows: 2, Cols: 8, Cells: [][]byte{row, wide[:8]}}); e != api.OK {
		t.Error(e)
	}
}

// P12.1: each byte, in each cell.
func TestCheckOfBytes(t *testing.T) {
	g := made(t, 3, 9)
	for row := range g.Rows {
		for col := range g.Cols {
			for c := range 256 {
				g.Cells[row][col] = byte(c)
				if e, ok := Check(g), 32 <= c && c <= 126; (e == api.OK) != ok || e != api.OK && e != api.ErrArg {
					t.Errorf("%d at %d, %d: %v", c, row, col, e)
				}
			}
			g.Cells[row][col] = 'x'
		}
	}
}

// bad is grids that may not be, most of them by one fault.
func bad() map[string]api.Grid {
	all := map[string]api.Grid{
		"zero":          {},
		"no cells":      {Rows: 2, Cols: 8},
		"one row":       gridOf(0, 0, "abcdefgh"),
		"seven columns": gridOf(0, 0, "abcdefg", "hijklmn"),
		"61 rows":       gridOf(0, 0, slices.Repeat([]string{"abcdefgh"}, 61)...),
		"133 columns":   gridOf(0, 0, strings.Repeat("x", 133), strings.Repeat("y", 133)),
		"nil rows":      {Rows: 2, Cols: 8, Cells: make([][]byte, 2)},
		"below 0":       {Rows: -2, Cols: -8, Row: -1, Col: -1},
		"far":           {Rows: math.MaxInt, Cols: math.MaxInt, Row: math.MinInt, Col: math.MinInt},
	}
	with := func(name string, spoilt func(g *api.Grid)) {
		g := gridOf(1, 7, "abcdefgh", "ijklmnop", "qrstuvwx")
		spoilt(&g)
		all[name] = g
	}
	with("more rows than cells", func(g *api.Grid) { g.Rows = 4 })
	with("fewer rows than cells", func(g *api.Grid) { g.Rows = 2 })
	with("fewer columns than cells", func(g *api.Grid) {
		for i := range g.Cells {
			g.Cells[i] = append(g.Cells[i], 'z')
		}
	})
	with("more columns than cells", func(g *api.Grid) { g.Cols = 9 })
	with("a short first row", func(g *api.Grid) { g.Cells[0] = g.Cells[0][:7] })
	with("a short last row", func(g *api.Grid) { g.Cells[2] = g.Cells[2][1:] })
	with("an empty row", func(g *api.Grid) { g.Cells[1] = nil })
	with("a long first row", func(g *api.Grid) { g.Cells[0] = append(g.Cells[0], 'z') })
	with("a long last row", func(g *api.Grid) { g.Cells[2] = append(g.Cells[2], 'z') })
	with("a short and a long row", func(g *api.Grid) { g.Cells[0], g.Cells[1] = g.Cells[0][:7], append(g.Cells[1], 'z') })
	with("byte 31", func(g *api.Grid) { g.Cells[0][0] = 31 })
	with("byte 127", func(g *api.Grid) { g.Cells[2][7] = 127 })
	with("byte 10", func(g *api.Grid) { g.Cells[1][3] = 10 })
	with("byte 0", func(g *api.Grid) { g.Cells[1][7] = 0 })
	with("byte 255", func(g *api.Grid) { g.Cells[2][0] = 255 })
	for _, n := range []int{math.MinInt, -1, 3, math.MaxInt} {
		with("a cursor in row "+strconv.Itoa(n), func(g *api.Grid) { g.Row = n })
	}
	for _, n := range []int{math.MinInt, -1, 8, math.MaxInt} {
		with("a cursor in column "+strconv.Itoa(n), func(g *api.Grid) { g.Col = n })
	}
	return all
}

// good is grids that may be, no two of them the same.
func good() map[string]api.Grid {
	return map[string]api.Grid{
		"blank":           gridOf(0, 0, eight, eight),
		"least":           gridOf(0, 0, "abcdefgh", "ijklmnop"),
		"a row more":      gridOf(0, 0, "abcdefgh", "ijklmnop", eight),
		"a column more":   gridOf(0, 0, "abcdefgh ", "ijklmnop "),
		"a row on":        gridOf(1, 0, "abcdefgh", "ijklmnop"),
		"a column on":     gridOf(0, 1, "abcdefgh", "ijklmnop"),
		"at the end":      gridOf(1, 7, "abcdefgh", "ijklmnop"),
		"another first":   gridOf(0, 0, "Abcdefgh", "ijklmnop"),
		"another last":    gridOf(0, 0, "abcdefgh", "ijklmnoP"),
		"rows turned":     gridOf(0, 0, "ijklmnop", "abcdefgh"),
		"edges":           gridOf(0, 0, "  ~~  ~~", "!}!}!}!}"),
		"four of twelve":  gridOf(2, 5, slices.Repeat([]string{"0123456789ab"}, 4)...),
		"twelve of eight": gridOf(2, 5, slices.Repeat([]string{"01234567"}, 12)...),
		"greatest":        gridOf(59, 131, slices.Repeat([]string{strings.Repeat("x", 132)}, 60)...),
	}
}

// whatever is grids that may be and others, and whether each of them may.
func whatever() (all map[string]api.Grid, mayBe map[string]bool) {
	all, mayBe = bad(), map[string]bool{}
	for name, g := range good() {
		all[name], mayBe[name] = g, true
	}
	return all, mayBe
}

// P12.1
func TestCheck(t *testing.T) {
	all, mayBe := whatever()
	for name, g := range all {
		before := Text(g)
		if e := Check(g); (e == api.OK) != mayBe[name] || e != api.OK && e != api.ErrArg {
			t.Errorf("%s: %v", name, e)
		}
		if !slices.Equal(Text(g), before) {
			t.Errorf("%s: changed", name)
		}
	}
}

// P12.2: clones of whatever grid, in memory of their own.
func TestClone(t *testing.T) {
	all, _ := whatever()
	again, _ := whatever()
	for name, g := range all {
		clone := Clone(g)
		checkGrid(t, name+": clone", clone, again[name])
		checkGrid(t, name+": what was cloned", g, again[name])
		spoil(clone)
		checkGrid(t, name+": what was cloned, behind that", g, again[name])
		clone = Clone(g)
		spoil(g)
		checkGrid(t, name+": clone, behind that", clone, again[name])
	}
}

// P12.2: a clone's rows are apart, even where those of the grid are not.
func TestCloneParts(t *testing.T) {
	row := []byte("abcdefghijklmnop")
	for _, g := range []api.Grid{
		{Rows: 2, Cols: 8, Cells: [][]byte{row[:8], row[:8]}},
		{Rows: 2, Cols: 8, Cells: [][]byte{row[:8], row[8:]}},
		{Rows: 2, Cols: 8, Cells: [][]byte{row[:8], row[4:12]}},
	} {
		second := string(g.Cells[1])
		clone := Clone(g)
		clone.Cells[0][4] = 'X'
		clone.Cells[0] = append(clone.Cells[0], "YYYYYYYY"...)
		if string(clone.Cells[0]) != "abcdXfghYYYYYYYY" || string(clone.Cells[1]) != second {
			t.Errorf("%q", clone.Cells)
		}
		if put := Put(g, 0, 4, 'X'); string(put.Cells[0]) != "abcdXfgh" || string(put.Cells[1]) != second {
			t.Errorf("%q", put.Cells)
		}
		if string(row) != "abcdefghijklmnop" {
			t.Errorf("%q", row)
		}
	}
}

// P12.2, P12.4: each byte, in each cell.
func TestPut(t *testing.T) {
	for _, size := range [][2]int{{2, 8}, {3, 9}} {
		g := made(t, size[0], size[1])
		g.Row, g.Col = 1, 7
		for row := range g.Rows {
			for col := range g.Cols {
				for c := range 256 {
					want := made(t, size[0], size[1])
					want.Row, want.Col = 1, 7
					checkGrid(t, "what is put into", g, want)
					if 32 <= c && c <= 126 {
						want.Cells[row][col] = byte(c)
					}
					got := Put(g, row, col, byte(c))
					checkGrid(t, "Put", got, want)
					if e := Check(got); e != api.OK {
						t.Errorf("%d at %d, %d: %v", c, row, col, e)
					}
				}
			}
		}
	}
}

// P12.2: no cell is there.
func TestPutBeyond(t *testing.T) {
	places := []int{math.MinInt, -61, -8, -2, -1, 0, 1, 2, 3, 4, 7, 8, 9, 12, 59, 60, 131, 132, math.MaxInt}
	all, mayBe := whatever()
	for name, g := range all {
		for _, row := range places {
			for _, col := range places {
				want := Clone(g)
				if mayBe[name] && 0 <= row && row < g.Rows && 0 <= col && col < g.Cols {
					want.Cells[row][col] = '@'
				}
				checkGrid(t, name+": Put", Put(g, row, col, '@'), want)
			}
		}
	}
}

// P12.2, P12.4: what is put into is as it was, and stays so.
func TestPutIsApart(t *testing.T) {
	all, mayBe := whatever()
	again, _ := whatever()
	for name, g := range all {
		for _, place := range [][2]int{{0, 0}, {1, 7}, {-1, 0}, {0, 132}} {
			for _, c := range []byte{'@', ' ', '~', 31, 127} {
				got := Put(g, place[0], place[1], c)
				if e := Check(got); (e == api.OK) != mayBe[name] {
					t.Errorf("%s: %v", name, e)
				}
				checkGrid(t, name+": what is put into", g, again[name])
				spoil(got)
				checkGrid(t, name+": what is put into, behind that", g, again[name])
			}
		}
	}
}

// P12.4: in which order is the same, if the cells are unlike; else the last one counts.
func TestPutOrder(t *testing.T) {
	g := gridOf(1, 2, "abcdefgh", "ijklmnop", "qrstuvwx")
	for at := range 24 {
		for other := range 24 {
			for _, c := range []byte{'X', 31} {
				one := Put(Put(g, at/8, at%8, c), other/8, other%8, 'Y')
				two := Put(Put(g, other/8, other%8, 'Y'), at/8, at%8, c)
				if at != other {
					checkGrid(t, "two Puts", one, two)
					continue
				}
				checkGrid(t, "Puts into one cell", one, Put(g, at/8, at%8, 'Y'))
				if c == 'X' {
					checkGrid(t, "Puts into one cell", two, Put(g, at/8, at%8, 'X'))
				}
			}
		}
	}
}

// P12.3: the cells of whatever grid, whatever its numbers, byte by byte.
func TestText(t *testing.T) {
	checkText(t, api.Grid{})
	checkText(t, api.Grid{Rows: 2, Cols: 8})
	checkText(t, api.Grid{Rows: -1, Cols: math.MaxInt, Cells: make([][]byte, 3)}, "", "", "")
	checkText(t, api.Grid{Rows: 1, Cells: [][]byte{nil, []byte("a\n"), {}, []byte("\x00\xc3\xa9\xff")}}, "", "a\n", "", "\x00\xc3\xa9\xff")
	checkText(t, gridOf(1, 1, "abcdefgh", "ijklmnop"), "abcdefgh", "ijklmnop")
	all, _ := whatever()
	again, _ := whatever()
	for name, g := range all {
		text := Text(g)
		var want []string
		for _, row := range again[name].Cells {
			want = append(want, string(row))
		}
		if !slices.Equal(text, want) {
			t.Errorf("%s: %q, not %q", name, text, want)
		}
		checkGrid(t, name, g, again[name])
		spoil(g)
		if !slices.Equal(text, want) {
			t.Errorf("%s: %q behind the grid was changed, not %q", name, text, want)
		}
	}
}

// P12.3: each of many grids is the same as itself alone.
func TestSame(t *testing.T) {
	all, _ := whatever()
	again, _ := whatever()
	for one, a := range all {
		for two, b := range again {
			if got := Same(a, b); got != (one == two) {
				t.Errorf("%s, %s: %t", one, two, got)
			}
		}
		if !Same(a, a) || !Same(a, Clone(a)) || !Same(Clone(a), a) {
			t.Errorf("%s", one)
		}
	}
	for name, a := range all {
		checkGrid(t, name, a, again[name])
	}
}

// P12.3: one number is another one, or one cell, whatever the grid.
func TestSameBut(t *testing.T) {
	all, _ := whatever()
	for name, g := range all {
		for _, n := range []*int{&g.Rows, &g.Cols, &g.Row, &g.Col} {
			was := Clone(g)
			*n++
			if Same(was, g) || Same(g, was) {
				t.Errorf("%s: %d, %d, cursor %d, %d", name, g.Rows, g.Cols, g.Row, g.Col)
			}
			*n--
		}
		for i, row := range g.Cells {
			for j := range row {
				other := Clone(g)
				other.Cells[i][j] ^= 1
				if Same(other, g) || Same(g, other) {
					t.Errorf("%s: at %d, %d", name, i, j)
				}
			}
			other := Clone(g)
			other.Cells[i] = append(other.Cells[i], 32)
			if Same(other, g) || Same(g, other) {
				t.Errorf("%s: row %d is longer", name, i)
			}
		}
		more := Clone(g)
		more.Cells = append(more.Cells, nil)
		if Same(more, g) || Same(g, more) {
			t.Errorf("%s: a row more", name)
		}
	}
}

// P12.3: a list that is nil is an empty one.
func TestSameOfNil(t *testing.T) {
	if !Same(api.Grid{}, api.Grid{Cells: [][]byte{}}) {
		t.Error("lists of rows")
	}
	if !Same(api.Grid{Cells: [][]byte{nil, {}}}, api.Grid{Cells: [][]byte{{}, nil}}) {
		t.Error("lists of cells")
	}
}
