package vt

import (
	"math"
	"strconv"
	"strings"
	"testing"

	"inkhorn/api"
	"inkhorn/grids"
)

// made is a new terminal.
func made(t *testing.T, rows, cols int) *VT {
	t.Helper()
	v := New(rows, cols)
	if v == nil {
		t.Fatalf("New(%d, %d): none", rows, cols)
	}
	return v
}

// feed writes to a terminal.
func feed(t *testing.T, v *VT, written string) {
	t.Helper()
	if e := v.Feed(written); e != api.OK {
		t.Fatalf("%.60q: %v", written, e)
	}
}

// letter is what stands in a cell of a terminal that is full: no row and no column is like the next ones.
func letter(row, col int) byte { return "abcdefghijklmnopqrstuvwxyz"[(7*row+col)%26] }

// fullGrid is a grid of these letters.
func fullGrid(rows, cols, row, col int) api.Grid {
	g := api.Grid{Rows: rows, Cols: cols, Row: row, Col: col, Cells: make([][]byte, rows)}
	for i := range g.Cells {
		for j := range cols {
			g.Cells[i] = append(g.Cells[i], letter(i, j))
		}
	}
	return g
}

// place is what leads the cursor to a place, counted from 0 on.
func place(row, col int) string {
	return "\x1b[" + strconv.Itoa(row+1) + ";" + strconv.Itoa(col+1) + "H"
}

// full is a terminal that shows letters, its cursor at a place.
func full(t *testing.T, rows, cols, row, col int) *VT {
	t.Helper()
	v, want := made(t, rows, cols), fullGrid(rows, cols, row, col)
	for i := range rows {
		feed(t, v, place(i, 0)+string(want.Cells[i]))
	}
	feed(t, v, place(row, col))
	checkGrid(t, "full", v.Grid(), want)
	return v
}

// checkGrid holds a grid against what it is to be.
func checkGrid(t *testing.T, what string, got, want api.Grid) {
	t.Helper()
	if !grids.Same(got, want) {
		t.Errorf("%.80q: %q, cursor %d, %d of %d, %d, not %q, cursor %d, %d of %d, %d", what,
			got.Cells, got.Row, got.Col, got.Rows, got.Cols, want.Cells, want.Row, want.Col, want.Rows, want.Cols)
	}
	if e := grids.Check(got); e != api.OK {
		t.Errorf("%.80q: %v", what, e)
	}
}

// checkShown holds what a terminal shows against rows without the blanks at their ends, and the cursor's place.
func checkShown(t *testing.T, v *VT, row, col int, rows ...string) {
	t.Helper()
	g := v.Grid()
	want := api.Grid{Rows: len(rows), Cols: g.Cols, Row: row, Col: col}
	for _, r := range rows {
		want.Cells = append(want.Cells, []byte(r+strings.Repeat(" ", g.Cols-len(r))))
	}
	checkGrid(t, "shown", g, want)
}

// checkFull holds what a full terminal shows, when it was written to, against what a change makes of its grid.
func checkFull(t *testing.T, rows, cols, row, col int, written string, change func(g *api.Grid)) {
	t.Helper()
	v, want := full(t, rows, cols, row, col), fullGrid(rows, cols, row, col)
	feed(t, v, written)
	change(&want)
	checkGrid(t, written, v.Grid(), want)
}

// nothing is a change that is none.
func nothing(*api.Grid) {}

func TestExamples(t *testing.T) {
	for _, x := range []struct {
		written  string
		row, col int
		rows     [2]string
	}{
		{"ab\r\nc", 1, 1, [2]string{"ab", "c"}},
		{"123456789", 0, 7, [2]string{"12345679", ""}},
		{"a\nb\nc", 1, 3, [2]string{" b", "  c"}},
		{"\x1b[2;3Hx\x1b[A\x1b[Dy", 0, 3, [2]string{"  y", "  x"}},
		{"ab\x1b[D\x1b[K\x1b[?1Jz", 0, 2, [2]string{"az", ""}},
	} {
		v := made(t, 2, 8)
		feed(t, v, x.written)
		checkShown(t, v, x.row, x.col, x.rows[0], x.rows[1])
	}
}

// numbersAround are those of a size's limits, those between, and far ones.
func numbersAround(low, high int) []int {
	all := []int{math.MinInt, math.MinInt32, -low, -1, 0, 1, low - 1, high + 1, 2 * high, 255, 256, math.MaxInt32, 1 << 32, math.MaxInt}
	for n := low; n <= high; n++ {
		all = append(all, n)
	}
	return all
}

// P13.1: a terminal of each size that a grid may have, and none of those around.
func TestNew(t *testing.T) {
	for _, rows := range numbersAround(api.MinRows, api.MaxRows) {
		for _, cols := range numbersAround(api.MinCols, api.MaxCols) {
			g, e := grids.New(rows, cols)
			v := New(rows, cols)
			if (v == nil) != (e != api.OK) {
				t.Errorf("New(%d, %d): %v, %v", rows, cols, v == nil, e)
			}
			if v == nil {
				if e := v.Feed("x"); e != api.ErrNil {
					t.Errorf("New(%d, %d): %v", rows, cols, e)
				}
				continue
			}
			checkGrid(t, "new", v.Grid(), g)
		}
	}
}

// P13.1: a new terminal has no escape: what could go on with one is put.
func TestNewHasNoEscape(t *testing.T) {
	v := made(t, 2, 8)
	feed(t, v, "[2J")
	checkShown(t, v, 0, 3, "[2J", "")
	v = made(t, 2, 8)
	feed(t, v, "2H;x")
	checkShown(t, v, 0, 4, "2H;x", "")
}

// P13.1, R3: of those that are none.
func TestNone(t *testing.T) {
	var declared VT
	for name, v := range map[string]*VT{"nil": nil, "new": new(VT), "empty": {}, "declared": &declared} {
		for range 2 {
			for _, written := range []string{"", "x", "\x1b[2J", "\x1b", "[H", "\n\r\b\x00\xff"} {
				if e := v.Feed(written); e != api.ErrNil {
					t.Errorf("%s: Feed(%q): %v", name, written, e)
				}
			}
			if g := v.Grid(); g.Rows != 0 || g.Cols != 0 || g.Row != 0 || g.Col != 0 || len(g.Cells) != 0 {
				t.Errorf("%s: %v", name, g)
			}
		}
	}
}

// P13.1: each byte that is no part of an escape, at each place.
func TestBytes(t *testing.T) {
	const rows, cols = 3, 9
	for row := range rows {
		for col := range cols {
			for c := range 256 {
				checkFull(t, rows, cols, row, col, string([]byte{byte(c)}), func(g *api.Grid) {
					switch {
					case 32 <= c && c <= 126:
						g.Cells[row][col] = byte(c)
						g.Col = min(col+1, 8)
					case c == 13:
						g.Col = 0
					case c == 10 && row < 2:
						g.Row = row + 1
					case c == 10:
						g.Cells = append(g.Cells[1:], []byte("         "))
					case c == 8 && col > 0:
						g.Col = col - 1
					}
				})
			}
		}
	}
}

// P13.1: rows go up, as many as there are bytes 10, and the new ones are each a row of its own.
func TestScroll(t *testing.T) {
	v := full(t, 3, 8, 2, 4)
	feed(t, v, "\nX")
	checkShown(t, v, 2, 5, "hijklmno", "opqrstuv", "    X")
	feed(t, v, "\nY\n")
	checkShown(t, v, 2, 6, "    X", "     Y", "")
	feed(t, v, "Z\x1b[AU\x1b[AV")
	checkShown(t, v, 0, 8-1, "    X  V", "     Y U", "      Z")
	feed(t, v, "\x1b[9B\n\n\n\n\n\n\n\n")
	checkShown(t, v, 2, 7, "", "", "")
	feed(t, v, "\r1\x1b[A2\x1b[A3")
	checkShown(t, v, 0, 3, "  3", " 2", "1")
}

// P13.1: the last column: the cursor stays, and the last byte counts.
func TestLastColumn(t *testing.T) {
	v := made(t, 2, 8)
	feed(t, v, "1234567")
	checkShown(t, v, 0, 7, "1234567", "")
	feed(t, v, "8")
	checkShown(t, v, 0, 7, "12345678", "")
	feed(t, v, "9 ")
	checkShown(t, v, 0, 7, "1234567", "")
	feed(t, v, "a\b\bb")
	checkShown(t, v, 0, 6, "12345b7a", "")
	feed(t, v, "\n12345")
	checkShown(t, v, 1, 7, "12345b7a", "      15")
	feed(t, v, "\r\b\b0")
	checkShown(t, v, 1, 1, "12345b7a", "0     15")
}

// P13.1: each byte behind that with which an escape begins.
func TestBytesBehindEscape(t *testing.T) {
	for c := range 256 {
		for _, begin := range []string{"\x1b", "\x1b\x1b", "\x1b[\x1b", "\x1b[2\x1b", "\x1b[;\x1b\x1b\x1b"} {
			checkFull(t, 3, 9, 2, 4, begin+string([]byte{byte(c)})+"2AX", func(g *api.Grid) {
				switch c {
				case '[':
					g.Row = 0
					g.Cells[0][4], g.Col = 'X', 5
				case 27: // 2 ends the escape.
					g.Cells[2][4], g.Cells[2][5], g.Col = 'A', 'X', 6
				default:
					g.Cells[2][4], g.Cells[2][5], g.Cells[2][6], g.Col = '2', 'A', 'X', 7
				}
			})
		}
	}
}

// P13.1: each byte behind an escape's bracket, and behind parameters.
func TestBytesBehindBracket(t *testing.T) {
	for c := range 256 {
		for _, begin := range []string{"\x1b[", "\x1b[2", "\x1b[2;3", "\x1b[;", "\x1b[?", "\x1b[2;;3", "\x1b[00 /"} {
			written := begin + string([]byte{byte(c)})
			v := full(t, 3, 9, 1, 4)
			want := v.Grid()
			feed(t, v, written)
			if strings.IndexByte(commands, byte(c)) >= 0 {
				want = v.Grid() // TestSteps, TestPlaces and TestWipes say what these do.
			}
			checkGrid(t, written, v.Grid(), want)
			shown := "[X" // The escape has ended.
			switch {
			case c == 27:
				shown = "" // The next one goes up to X.
			case 32 <= c && c <= 63:
				shown = "X" // The bracket is its command.
			}
			for i := range len(shown) {
				want.Cells[want.Row][want.Col] = shown[i]
				want.Col++
			}
			feed(t, v, "[X")
			checkGrid(t, written+"[X", v.Grid(), want)
		}
	}
}

// numbers are numbers as an escape may have them, and what each of them comes to.
var numbers = map[string]int{
	"": 0, "0": 0, "00": 0, "000000000000000000000000000": 0,
	"1": 1, "01": 1, "0000000000000000000000000000001": 1, "2": 2, "02": 2, "00000000000000000000002": 2,
	"3": 3, "4": 4, "7": 7, "8": 8, "9": 9, "10": 10, "11": 11, "12": 12, "20": 20, "22": 22, "100": 100, "200": 200,
	"9998": 9998, "9999": 9999, "10000": 9999, "10002": 9999, "20000": 9999, "99999": 9999,
	"65536": 9999, "65538": 9999, "4294967296": 9999, "4294967298": 9999, "2147483648": 9999, "9223372036854775808": 9999,
	"18446744073709551616": 9999, "18446744073709551617": 9999, "18446744073709551618": 9999,
	"99999999999999999999999999999999999999999999": 9999,
}

// P13.1: A, B, C and D, from each place.
func TestSteps(t *testing.T) {
	const rows, cols = 3, 9
	for digits, n := range numbers {
		steps := max(n, 1)
		for row := range rows {
			for col := range cols {
				for command, change := range map[string]func(g *api.Grid){
					"A": func(g *api.Grid) { g.Row = max(row-steps, 0) },
					"B": func(g *api.Grid) { g.Row = min(row+steps, 2) },
					"C": func(g *api.Grid) { g.Col = min(col+steps, 8) },
					"D": func(g *api.Grid) { g.Col = max(col-steps, 0) },
				} {
					checkFull(t, rows, cols, row, col, "\x1b["+digits+command, change)
				}
			}
		}
	}
}

// P13.1: H, with numbers of which each may be missing.
func TestPlaces(t *testing.T) {
	for one, r := range numbers {
		checkFull(t, 5, 12, 3, 4, "\x1b["+one+"H", func(g *api.Grid) {
			g.Row, g.Col = min(max(r, 1), 5)-1, 0
		})
		for two, c := range numbers {
			checkFull(t, 5, 12, 3, 4, "\x1b["+one+";"+two+"H", func(g *api.Grid) {
				g.Row, g.Col = min(max(r, 1), 5)-1, min(max(c, 1), 12)-1
			})
		}
	}
}

// P13.1: H, to each place of the least and the greatest screen.
func TestEachPlace(t *testing.T) {
	for _, size := range [][2]int{{2, 8}, {60, 132}} {
		v := full(t, size[0], size[1], 0, 0)
		want := v.Grid()
		for row := range size[0] + 2 {
			for col := range size[1] + 2 {
				feed(t, v, place(row, col))
				want.Row, want.Col = min(row, size[0]-1), min(col, size[1]-1)
				checkGrid(t, "place", v.Grid(), want)
			}
		}
	}
}

// wiped makes a stretch of a row blanks.
func wiped(g *api.Grid, row, from int) {
	for col := from; col < g.Cols; col++ {
		g.Cells[row][col] = ' '
	}
}

// P13.1: J and K, from each place; the cursor stays.
func TestWipes(t *testing.T) {
	const rows, cols = 3, 9
	for digits, n := range numbers {
		for row := range rows {
			for col := range cols {
				checkFull(t, rows, cols, row, col, "\x1b["+digits+"K", func(g *api.Grid) {
					switch n {
					case 0:
						wiped(g, row, col)
					case 2:
						wiped(g, row, 0)
					}
				})
				checkFull(t, rows, cols, row, col, "\x1b["+digits+"J", func(g *api.Grid) {
					for i := range rows {
						switch {
						case n == 0 && i == row:
							wiped(g, i, col)
						case n == 0 && i > row, n == 2:
							wiped(g, i, 0)
						}
					}
				})
			}
		}
	}
}

const commands = "HABCDJK"

// P13.1: parameters that are no numbers, and numbers that are too many: nothing is done, and the escape ends.
func TestWrongParams(t *testing.T) {
	wrong := []string{"1;1;1", "1;1;", ";;", ";1;", ";;1", "0;0;0", ";;;", "1;2;3;4;5;6;7;8;9;10", "?;1;1", strings.Repeat(";", 5000)}
	for c := byte(32); c < 64; c++ {
		if c == ';' || '0' <= c && c <= '9' {
			continue
		}
		s := string([]byte{c})
		wrong = append(wrong, s, s+"1", "1"+s, "1"+s+"2", "2"+s, s+s, s+"2", "1;"+s, s+";1", "1;2"+s, "1;"+s+"2", "0"+s, "1"+s+";2")
	}
	for _, params := range wrong {
		for _, command := range commands {
			checkFull(t, 3, 9, 1, 4, "\x1b["+params+string(command), nothing)
			checkFull(t, 3, 9, 1, 4, "\x1b["+params+string(command)+"X", func(g *api.Grid) { g.Cells[1][4], g.Col = 'X', 5 })
		}
	}
	// A number alone: there is none behind it, not even one that is missing.
	for _, params := range []string{";", "1;", "2;", "0;", ";1", ";2", ";0", "1;1", "0;0", "2;2", ";;"} {
		for _, command := range commands[1:] {
			checkFull(t, 3, 9, 1, 4, "\x1b["+params+string(command), nothing)
		}
	}
}

// P13.1: letters that are no commands, with parameters of all kinds.
func TestNoCommands(t *testing.T) {
	for c := byte(64); c < 127; c++ {
		if strings.IndexByte(commands, c) >= 0 {
			continue
		}
		for _, params := range []string{"", "0", "1", "2", "1;1", ";", "?1", "?2", "1;2;3"} {
			checkFull(t, 3, 9, 1, 4, "\x1b["+params+string([]byte{c}), nothing)
			checkFull(t, 3, 9, 1, 4, "\x1b["+params+string([]byte{c})+"2J", func(g *api.Grid) {
				g.Cells[1][4], g.Cells[1][5], g.Col = '2', 'J', 6
			})
		}
	}
}

// P13.1: what an escape had is over with it: with the next one all begins anew.
func TestAnew(t *testing.T) {
	for _, begin := range []string{
		"\x1b[2", "\x1b[?", "\x1b[3;", "\x1b[3;7", "\x1b[1;2;3", "\x1b[ ", "\x1b", "\x1b[", // cut off by the next one
		"\x1b[2\x7f", "\x1b[?\n", "\x1b[3;\r", "\x1b[3;7\x00", "\x1b[1;2;3\xff", "\x1b\n", "\x1b[\b", "\x1b7", // ended otherwise
		"\x1b[2m", "\x1b[?25h", "\x1b[;m", "\x1b[1;2;3H", "\x1b[[", "\x1b[3;7J", "\x1b[?A", "\x1b[1J", // ended by a letter
	} {
		checkFull(t, 3, 9, 1, 4, begin+"\x1b[A", func(g *api.Grid) { g.Row = 0 })
		checkFull(t, 3, 9, 1, 4, begin+"\x1b[2D", func(g *api.Grid) { g.Col = 2 })
		checkFull(t, 3, 9, 1, 4, begin+"\x1b[H", func(g *api.Grid) { g.Row, g.Col = 0, 0 })
		checkFull(t, 3, 9, 1, 4, begin+"\x1b[;3H", func(g *api.Grid) { g.Row, g.Col = 0, 2 })
		checkFull(t, 3, 9, 1, 4, begin+"\x1b[K", func(g *api.Grid) { wiped(g, 1, 4) })
	}
	v := full(t, 3, 9, 0, 0)
	feed(t, v, "\x1b[3;7H\x1b[H\x1b[2B\x1b[A")
	checkGrid(t, "rows", v.Grid(), fullGrid(3, 9, 1, 0))
	feed(t, v, "\x1b[3;7H\x1b[2H")
	checkGrid(t, "no column", v.Grid(), fullGrid(3, 9, 1, 0))
}

// P13.1: escapes that are long.
func TestLongParams(t *testing.T) {
	zeros, nines := strings.Repeat("0", 1<<20), strings.Repeat("9", 1<<20)
	checkFull(t, 3, 9, 1, 4, "\x1b["+zeros+"2K", func(g *api.Grid) { wiped(g, 1, 0) })
	checkFull(t, 3, 9, 1, 4, "\x1b["+zeros+";"+zeros+"3H", func(g *api.Grid) { g.Row, g.Col = 0, 2 })
	checkFull(t, 3, 9, 1, 4, "\x1b["+nines+";"+nines+"H", func(g *api.Grid) { g.Row, g.Col = 2, 8 })
	checkFull(t, 3, 9, 1, 4, "\x1b["+strings.Repeat(";", 1<<20)+"H", nothing)
	checkFull(t, 3, 9, 1, 4, "\x1b["+strings.Repeat("?", 1<<20)+"K", nothing)
	checkFull(t, 3, 9, 1, 4, strings.Repeat("\x1b", 1<<20)+"[A", func(g *api.Grid) { g.Row = 0 })
}

// spoil makes all cells other ones, and those that might stand behind a row's cells.
func spoil(g api.Grid) {
	for i, row := range g.Cells {
		whole := row[:cap(row)]
		for j := range whole {
			whole[j] = 200
		}
		g.Cells[i] = nil
	}
}

// P13.1, R4: what is shown is handed out in memory of its own.
func TestGridIsApart(t *testing.T) {
	v := full(t, 3, 9, 1, 4)
	for _, written := range []string{"", "x", "\x1b[3;1H\n\n", "\x1b[2J", "abc", "\x1b[", "K"} {
		feed(t, v, written)
		shown, again := v.Grid(), v.Grid()
		spoil(again)
		checkGrid(t, "handed out first", shown, v.Grid())
	}
}

// P13.1, R4: what was handed out stays, whatever is written behind that.
func TestGridStays(t *testing.T) {
	v := full(t, 3, 9, 1, 4)
	for _, written := range []string{"x", "\x1b[H", "later", "\n\n", "\nlater", "\x1b[2K", "\x1b[H\x1b[J", "\x1b[2J"} {
		shown := v.Grid()
		was := grids.Clone(shown)
		feed(t, v, written)
		checkGrid(t, "ahead of "+written, shown, was)
	}
}

// P13.1, R2: terminals are apart, in the midst of escapes, too.
func TestTerminalsAreApart(t *testing.T) {
	one, two := full(t, 3, 9, 1, 4), full(t, 3, 9, 1, 4)
	feed(t, one, "\x1b[2")
	feed(t, two, "\x1b")
	feed(t, one, ";")
	feed(t, two, "[3")
	feed(t, one, "3H")
	feed(t, two, "D")
	checkGrid(t, "one", one.Grid(), fullGrid(3, 9, 1, 2))
	checkGrid(t, "two", two.Grid(), fullGrid(3, 9, 1, 1))
	feed(t, one, "\x1b[2J\n\n")
	checkGrid(t, "two", two.Grid(), fullGrid(3, 9, 1, 1))
}

// P13.2: wherever what is written is cut, and whoever looks between.
func TestCuts(t *testing.T) {
	for _, written := range []string{
		"ab\x1b[2;3Hc\x1b[?1J\x1b[K\nd\x1b[1;2Ae\x1b\x1b[2Cf\x1b7g\b\b\x1b[10Dh\r\n\x1b[00;04Hi\x1b[0",
		"\x1b[3H\n\n\x1b[2\x7fJ\x1b[2\x1b[1Ajk\x1b[;5Hl\x1b[12;12Hm\x1b[;;H\x1b[99999Anop\x80\x1b",
	} {
		whole := full(t, 3, 9, 1, 4)
		was := whole.Grid()
		want := plainGrid(was, written)
		feed(t, whole, written)
		checkGrid(t, written, whole.Grid(), want)
		for first := range len(written) + 1 {
			checkGrid(t, "cut", fedInPieces(t, written[:first], written[first:]), want)
			for second := first; second <= len(written); second++ {
				checkGrid(t, "cut twice", fedInPieces(t, written[:first], written[first:second], written[second:]), want)
			}
		}
		single := full(t, 3, 9, 1, 4)
		for i := range len(written) {
			feed(t, single, written[i:i+1])
			feed(t, single, "")
			checkGrid(t, written[:i+1], single.Grid(), plainGrid(was, written[:i+1]))
			spoil(single.Grid())
		}
		checkGrid(t, "byte by byte", single.Grid(), want)
	}
}

// fedInPieces is what a terminal shows that is written to in pieces.
func fedInPieces(t *testing.T, pieces ...string) api.Grid {
	t.Helper()
	v := full(t, 3, 9, 1, 4)
	for _, piece := range pieces {
		feed(t, v, piece)
	}
	return v.Grid()
}
