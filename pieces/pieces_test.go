package pieces

import (
	"math"
	"slices"
	"strings"
	"testing"

	"inkhorn/api"
	"inkhorn/lines"
	"inkhorn/samples"
)

// numbered is n lines, each other than the ones beside it.
func numbered(n int) []string {
	l := make([]string, n)
	for i := range l {
		l[i] = strings.Repeat("x", i%7) + string(rune('a'+i%26))
	}
	return l
}

// longLine is a line of so many bytes.
func longLine(n int) string { return strings.Repeat("x", n) }

// inPieces is a table of these lines, each of which stands in a piece of its own.
func inPieces(t *testing.T, l []string) *Table {
	t.Helper()
	x := New(nil)
	for i := range l {
		x = spliced(t, x, i, 0, l[i:i+1])
	}
	return x
}

// spliced is the table behind a splice that may be done.
func spliced(t *testing.T, x *Table, at, del int, ins []string) *Table {
	t.Helper()
	y, e := x.Splice(at, del, ins)
	if e != api.OK || y == nil || y == x {
		t.Fatalf("Splice(%d, %d, %.40q) of %.40q: %v, %v", at, del, ins, x.Text(), y, e)
	}
	return y
}

// checkTable tells where a table answers otherwise than one of these lines does.
func checkTable(t *testing.T, x *Table, want []string) {
	t.Helper()
	if got := x.Lines(1, len(want)); !slices.Equal(got, want) {
		t.Errorf("Lines: %.80q, not %.80q", got, want)
	}
	if n := x.Len(); n != len(want) {
		t.Errorf("Len: %d, not %d", n, len(want))
	}
	if s := x.Text(); s != lines.Join(want) {
		t.Errorf("Text: %.80q, not that of %.80q", s, want)
	}
	for i, line := range want {
		if got, ok := x.Line(i + 1); got != line || !ok {
			t.Fatalf("Line(%d) of %.80q: %q, %v", i+1, want, got, ok)
		}
	}
	for _, i := range []int{0, -1, len(want) + 1} {
		if got, ok := x.Line(i); got != "" || ok {
			t.Errorf("Line(%d) of %.80q: %q, %v", i, want, got, ok)
		}
	}
	checkPieces(t, x)
}

// P7.4: checkPieces tells where there are more pieces than there may be, or fewer, or others than are told.
func checkPieces(t *testing.T, x *Table) {
	t.Helper()
	if n := x.Pieces(); n > x.Len() || n < min(x.Len(), 1) || x != nil && n != len(x.pieces) {
		t.Errorf("%d pieces of %d lines", n, x.Len())
	}
}

// checkSplice tells where a splice answers something else than this error, and nothing beside it.
func checkSplice(t *testing.T, x *Table, at, del int, ins []string, want api.Errno) {
	t.Helper()
	y, e := x.Splice(at, del, ins)
	if e != want || (e != api.OK) != (y == nil) {
		t.Errorf("Splice(%d, %d, %.40q) of %d lines: %v, %d, not %d", at, del, ins, x.Len(), y != nil, e, want)
	}
}

// The document's examples.
func TestExamples(t *testing.T) {
	x := New([]string{"a", "b", "c"})
	y := spliced(t, x, 1, 1, []string{"x", "y"})
	checkTable(t, y, []string{"a", "x", "y", "c"})
	checkTable(t, x, []string{"a", "b", "c"})
	if l := y.Lines(2, 9); !slices.Equal(l, []string{"x", "y", "c"}) {
		t.Errorf("%q", l)
	}
	if line, ok := y.Line(4); line != "c" || !ok {
		t.Errorf("%q, %v", line, ok)
	}
	if line, ok := y.Line(5); line != "" || ok {
		t.Errorf("%q, %v", line, ok)
	}
	if l := y.Lines(3, 2); len(l) != 0 {
		t.Errorf("%q", l)
	}
	checkSplice(t, x, 2, 2, nil, api.ErrArg)
	checkSplice(t, x, 0, 0, []string{"a\nb"}, api.ErrArg)
	if n := x.Compact().Pieces(); n != 1 {
		t.Error(n)
	}
	z := spliced(t, x, 0, 3, nil)
	if z.Text() != "" || z.Pieces() != 0 {
		t.Errorf("%q, %d", z.Text(), z.Pieces())
	}
}

// P7.1
func TestNew(t *testing.T) {
	full := slices.Repeat([]string{longLine(api.MaxBytes)}, api.MaxLines)
	for _, l := range [][]string{
		nil, {}, {""}, {"a"}, {"", ""}, {"a", "", "b"}, {"\r", "\x00\xff\v\f\x85"}, {longLine(1000)},
		numbered(1999), numbered(2000), make([]string, 2000), full,
	} {
		x := New(l)
		if x == nil {
			t.Errorf("New(%.40q) is nil", l)
			continue
		}
		checkTable(t, x, l)
		checkSplice(t, x, 0, 0, nil, api.OK)
	}
	for _, l := range [][]string{
		{"\n"}, {"a", "b\nc"}, {"a", "b\n"}, {longLine(1001)}, {"a", longLine(1001), "b"},
		numbered(2001), make([]string, 2001), append(slices.Clone(full), ""), {longLine(1001), "\n"},
	} {
		if x := New(l); x != nil {
			t.Errorf("New(%.40q) is no nil", l)
		}
	}
}

// P7.1, R1, R3
func TestNone(t *testing.T) {
	var zero Table
	for _, x := range []*Table{nil, {}, &zero, New([]string{"\n"})} {
		checkTable(t, x, nil)
		if l := x.Lines(math.MinInt, math.MaxInt); len(l) != 0 {
			t.Errorf("%q", l)
		}
		if n := x.Pieces(); n != 0 {
			t.Error(n)
		}
		if y := x.Compact(); y != nil {
			t.Errorf("Compact of none: %v", y)
		}
		// whatever else stands against it
		for _, ins := range [][]string{nil, {"a"}, {"\n"}, {longLine(1001)}, numbered(2001)} {
			for _, at := range []int{0, -1, 1, math.MinInt, math.MaxInt} {
				checkSplice(t, x, at, 0, ins, api.ErrNil)
				checkSplice(t, x, 0, at, ins, api.ErrNil)
			}
		}
	}
	if New(nil).Compact() == nil {
		t.Error("a table without lines is none")
	}
}

var farNumbers = []int{math.MinInt, math.MinInt + 1, math.MinInt + 5, -2000, -1, 0, 1, 2, 3, 4, 5, 6, 7, 2000, 2001, math.MaxInt - 5, math.MaxInt - 1, math.MaxInt}

// P7.2
func TestLines(t *testing.T) {
	for n := range 6 {
		l := numbered(n)
		for _, x := range []*Table{New(l), inPieces(t, l)} {
			for _, from := range farNumbers {
				for _, to := range farNumbers {
					var want []string
					for i, line := range l {
						if from <= i+1 && i+1 <= to {
							want = append(want, line)
						}
					}
					if got := x.Lines(from, to); !slices.Equal(got, want) {
						t.Errorf("Lines(%d, %d) of %q: %q", from, to, l, got)
					}
				}
			}
		}
	}
}

// P7.2
func TestLine(t *testing.T) {
	for n := range 6 {
		l := numbered(n)
		for _, x := range []*Table{New(l), inPieces(t, l)} {
			for _, i := range farNumbers {
				want, there := "", i >= 1 && i <= n
				if there {
					want = l[i-1]
				}
				if got, ok := x.Line(i); got != want || ok != there {
					t.Errorf("Line(%d) of %q: %q, %v", i, l, got, ok)
				}
			}
		}
	}
	if line, ok := New([]string{"a", ""}).Line(2); line != "" || !ok { // an empty line is one
		t.Errorf("%q, %v", line, ok)
	}
}

// P7.3
func TestSpliceNumbers(t *testing.T) {
	for n := range 6 {
		x := New(numbered(n))
		for _, at := range farNumbers {
			for _, del := range farNumbers {
				want := api.ErrArg
				if at >= 0 && at <= n && del >= 0 && del <= n-at {
					want = api.OK
				}
				checkSplice(t, x, at, del, nil, want)
				checkSplice(t, x, at, del, []string{"", "a\r\x00"}, want)
				checkSplice(t, x, at, del, []string{"a", "b\n"}, api.ErrArg)
				if want == api.OK {
					want = api.ErrLong
				}
				checkSplice(t, x, at, del, []string{"a", longLine(1001)}, want)
				checkSplice(t, x, at, del, numbered(2001), want)
			}
		}
	}
}

// P7.3
func TestSpliceOrderOfErrors(t *testing.T) {
	x := New(numbered(3))
	long := longLine(1001)
	for _, ins := range [][]string{{"\n"}, {long, "\n"}, {"\n", long}, {long + "\n"}, append(numbered(2000), "\n"), append([]string{"\n"}, numbered(2000)...)} {
		checkSplice(t, x, 0, 0, ins, api.ErrArg)
		checkSplice(t, x, 3, 1, ins, api.ErrArg)
	}
	checkSplice(t, x, 0, 4, []string{long}, api.ErrArg)
	checkSplice(t, x, -1, 0, numbered(2001), api.ErrArg)
	checkSplice(t, x, 0, -1, numbered(2001), api.ErrArg)
	checkSplice(t, x, 0, 3, []string{long}, api.ErrLong)
}

// P7.3
func TestSpliceLimits(t *testing.T) {
	for _, have := range []int{0, 1, 1000, 1999, 2000} {
		l := numbered(have)
		x := New(l)
		for _, del := range []int{0, 1, 2, 999, have} {
			for _, at := range []int{0, 1, have / 2, have - del} {
				if del > have || at < 0 || at > have-del {
					continue
				}
				room := 2000 - have + del
				checkSplice(t, x, at, del, numbered(room+1), api.ErrLong)
				checkSplice(t, x, at, del, numbered(2001), api.ErrLong)
				y := spliced(t, x, at, del, numbered(room))
				if y.Len() != 2000 {
					t.Errorf("%d lines", y.Len())
				}
				checkSplice(t, y, 0, 0, []string{""}, api.ErrLong)
				checkSplice(t, y, 2000, 0, []string{""}, api.ErrLong)
				checkSplice(t, y, 0, 0, nil, api.OK)
				checkSplice(t, y, 1999, 1, []string{longLine(1000)}, api.OK)
				checkSplice(t, y, 1999, 1, []string{"", ""}, api.ErrLong)
			}
		}
		checkTable(t, x, l)
	}
}

// R2
func TestSpliceThatFailsChangesNothing(t *testing.T) {
	l := numbered(5)
	x := spliced(t, New(l), 2, 1, l[2:3])
	pieces := x.Pieces()
	for _, ins := range [][]string{{"\n"}, {longLine(1001)}, numbered(1996)} {
		x.Splice(0, 0, ins)
		x.Splice(3, 3, ins)
		x.Splice(-1, 0, ins)
	}
	checkTable(t, x, l)
	if x.Pieces() != pieces {
		t.Errorf("%d pieces, not %d", x.Pieces(), pieces)
	}
}

// P7.4
func TestPieces(t *testing.T) {
	l := numbered(2000)
	x := inPieces(t, l)
	checkTable(t, x, l)
	for _, y := range []*Table{x, New(l), New(l[:1]), spliced(t, x, 1000, 1, nil)} {
		want := y.Lines(1, 2000)
		pieces := y.Pieces()
		c := y.Compact()
		checkTable(t, c, want)
		if c.Pieces() != 1 || y.Pieces() != pieces || c == y {
			t.Errorf("%d, %d pieces", c.Pieces(), y.Pieces())
		}
	}
	for _, y := range []*Table{New(nil), New(nil).Compact(), spliced(t, x, 0, 2000, nil), spliced(t, New(nil), 0, 0, nil)} {
		checkTable(t, y, nil)
		if y.Pieces() != 0 || y.Compact() == nil || y.Compact().Pieces() != 0 {
			t.Errorf("%d pieces", y.Pieces())
		}
	}
}

// P7.4: one piece more, or two, or none, for what is cut and what is laid.
func TestSpliceMakesAtMostTwoPiecesMore(t *testing.T) {
	for n := range 5 {
		for mask := range 1 << n { // in which of n lines' places a piece ends
			x := New(nil)
			for i := 0; i < n; {
				from := i
				for i++; i < n && mask>>i&1 == 0; i++ {
				}
				x = spliced(t, x, from, 0, numbered(n)[from:i])
			}
			for at := range n + 1 {
				for del := range n - at + 1 {
					for _, ins := range [][]string{nil, {"p"}, {"p", "q"}, numbered(9)} {
						y := spliced(t, x, at, del, ins)
						checkPieces(t, y)
						if y.Pieces() > x.Pieces()+2 {
							t.Errorf("Splice(%d, %d, %q) of %q makes %d of %d pieces", at, del, ins, x.Lines(1, n), y.Pieces(), x.Pieces())
						}
					}
				}
			}
		}
	}
}

// R4
func TestArgumentsStay(t *testing.T) {
	backing := []string{"a", "b", "c", "d"}
	l := backing[:2]
	x := New(l)
	y := spliced(t, x, 1, 0, l)
	spliced(t, y, 4, 0, []string{"e"})
	spliced(t, y, 2, 0, []string{"e"})
	x.Compact()
	if !slices.Equal(backing, []string{"a", "b", "c", "d"}) {
		t.Errorf("%q", backing)
	}
}

// P7.3, R4
func TestListsAreOfTheirOwn(t *testing.T) {
	l, ins := numbered(4), []string{"p", "q"}
	x := New(l)
	y := spliced(t, x, 1, 1, ins)
	c := y.Compact()
	wantX, wantY := numbered(4), slices.Concat(numbered(4)[:1], []string{"p", "q"}, numbered(4)[2:])
	spoil := func(l []string) {
		for i := range l[:cap(l)] {
			l[:cap(l)][i] = "spoilt"
		}
	}
	spoil(l)
	spoil(ins)
	for _, table := range []*Table{x, y, c} {
		for from := range 6 {
			for to := range 7 {
				spoil(table.Lines(from, to))
			}
		}
	}
	checkTable(t, x, wantX)
	checkTable(t, y, wantY)
	checkTable(t, c, wantY)
}

// What is laid behind a piece, by whomever in this package, lies in no other one.
func TestNothingLiesBehindAPiece(t *testing.T) {
	for n := range 6 {
		for _, first := range []*Table{New(append(make([]string, 0, 50), numbered(n)...)), inPieces(t, numbered(n))} {
			for at := range n + 1 {
				for del := range n - at + 1 {
					second := spliced(t, first, at, del, append(make([]string, 0, 50), "p", "q"))
					want, wantSecond := first.Lines(1, n), second.Lines(1, n+2)
					for _, x := range []*Table{first, second, second.Compact()} {
						for _, piece := range x.pieces {
							_ = append(piece, "x", "y")
							if len(piece) != cap(piece) {
								t.Errorf("a piece of %q has room behind it", piece)
							}
						}
					}
					checkTable(t, first, want)
					checkTable(t, second, wantSecond)
				}
			}
		}
	}
}

// P7.3, P7.5
func TestAllShortSplices(t *testing.T) {
	allIns := samples.Lists([]string{"", "p"}, 2)
	for n := range 4 {
		l := numbered(n)
		x := New(l)
		eachSplice(n, allIns, func(at, del int, ins []string) {
			l2 := laid(l, at, del, ins)
			y := spliced(t, x, at, del, ins)
			eachSplice(len(l2), allIns, func(at, del int, ins []string) {
				checkTable(t, spliced(t, y, at, del, ins), laid(l2, at, del, ins))
			})
			checkTable(t, y, l2)
			checkTable(t, spliced(t, y, at, len(ins), l[at:at+del]), l)
		})
		checkTable(t, x, l)
	}
}

// eachSplice tells all splices that may be done in n lines, of some lists.
func eachSplice(n int, allIns [][]string, tell func(at, del int, ins []string)) {
	for at := range n + 1 {
		for del := range n - at + 1 {
			for _, ins := range allIns {
				tell(at, del, ins)
			}
		}
	}
}

// laid is what a splice makes of a list of lines.
func laid(l []string, at, del int, ins []string) []string {
	return slices.Concat(l[:at], ins, l[at+del:])
}
