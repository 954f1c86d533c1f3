package marks

import (
	"math"
	"slices"
	"testing"

	"inkhorn/api"
)

// far are numbers far from those of all lines, sums of which may go round.
var far = []int{math.MaxInt, math.MaxInt - 1, math.MaxInt/2 + 1, math.MaxInt32, 1 << 32, math.MinInt, math.MinInt + 1, math.MinInt32, -2000}

// sp is a splice.
func sp(at, del int, ins ...string) api.Splice {
	return api.Splice{At: at, Del: del, Ins: ins}
}

// many is a splice that puts so many lines.
func many(at, del, ins int) api.Splice {
	return sp(at, del, make([]string, ins)...)
}

// of is marks of a, b and so on.
func of(numbers ...int) api.Marks {
	var m api.Marks
	copy(m[:], numbers)
	return m
}

// allOn is marks all of which have a number.
func allOn(n int) api.Marks {
	var m api.Marks
	for i := range m {
		m[i] = n
	}
	return m
}

func checkSet(t *testing.T, m api.Marks, letter byte, line, n int, want api.Marks, e api.Errno) {
	t.Helper()
	if got, err := Set(m, letter, line, n); got != want || err != e {
		t.Errorf("Set %q %d of %d, %v: %v, %d, not %v, %d", letter, line, n, m, got, err, want, e)
	}
}

func checkGet(t *testing.T, m api.Marks, letter byte, want int, e api.Errno) {
	t.Helper()
	if got, err := Get(m, letter); got != want || err != e {
		t.Errorf("Get %q of %v: %d, %d, not %d, %d", letter, m, got, err, want, e)
	}
}

func checkLine(t *testing.T, n int, s api.Splice, want int, ok bool) {
	t.Helper()
	if got, found := Line(n, s); got != want || found != ok {
		t.Errorf("Line %d of %d, %d, %d lines: %d, %v, not %d, %v", n, s.At, s.Del, len(s.Ins), got, found, want, ok)
	}
}

func checkAll(t *testing.T, m api.Marks, l []api.Splice, want api.Marks) {
	t.Helper()
	if got := All(m, l); got != want {
		t.Errorf("All of %v and %d splices: %v, not %v", m, len(l), got, want)
	}
}

// checkShift holds marks behind one splice, alone and as a row, against what is wanted.
func checkShift(t *testing.T, m api.Marks, s api.Splice, want api.Marks) {
	t.Helper()
	if got := Shift(m, s); got != want {
		t.Errorf("Shift of %v by %d, %d, %d lines: %v, not %v", m, s.At, s.Del, len(s.Ins), got, want)
	}
	checkAll(t, m, []api.Splice{s}, want)
}

func TestExamples(t *testing.T) {
	s := many(2, 1, 3)
	checkLine(t, 5, s, 7, true)
	checkLine(t, 3, s, 0, false)
	checkLine(t, 2, s, 2, true)
	checkLine(t, 0, s, 0, false)
	checkSet(t, api.Marks{}, 'a', 3, 5, of(3), api.OK)
	checkSet(t, api.Marks{}, 'a', 3, 2, api.Marks{}, api.ErrAddress)
	checkSet(t, api.Marks{}, 'A', 3, 5, api.Marks{}, api.ErrMark)
	checkGet(t, of(3), 'a', 3, api.OK)
	checkGet(t, of(3), 'b', 0, api.ErrMark)
}

// P16.1: all letters and all others, on lines that there are, and on others.
func TestSetLetters(t *testing.T) {
	for b := range 256 {
		letter := byte(b)
		for _, m := range []api.Marks{{}, allOn(7), of(1, 2, 3)} {
			for line := -2; line <= 5; line++ {
				want, e := m, api.OK
				switch {
				case letter < 'a' || letter > 'z':
					want, e = api.Marks{}, api.ErrMark
				case line < 1 || line > 3:
					want, e = api.Marks{}, api.ErrAddress
				default:
					want[letter-'a'] = line
				}
				checkSet(t, m, letter, line, 3, want, e)
			}
		}
	}
}

// P16.1: buffers of no lines, and numbers that no buffer has.
func TestSetLines(t *testing.T) {
	m := of(9, 0, 4)
	numbers := append(slices.Clone(far), -1, 0, 1, 2, 1999, 2000, 2001)
	for _, n := range numbers {
		for _, line := range numbers {
			if 1 <= line && line <= n {
				checkSet(t, m, 'b', line, n, of(9, line, 4), api.OK)
			} else {
				checkSet(t, m, 'b', line, n, api.Marks{}, api.ErrAddress)
			}
			checkSet(t, m, 'B', line, n, api.Marks{}, api.ErrMark)
		}
	}
}

// P16.1: a mark that is laid again is on the new line alone, and the others stay where they were.
func TestSetAgain(t *testing.T) {
	m := api.Marks{}
	for i := range m {
		next, e := Set(m, 'a'+byte(i), i+1, 26)
		if e != api.OK || next[i] != i+1 || m[i] != 0 {
			t.Fatal(next, m, e)
		}
		m = next
	}
	checkSet(t, m, 'a', 26, 26, func() api.Marks { w := m; w[0] = 26; return w }(), api.OK)
	for i := range m {
		checkGet(t, m, 'a'+byte(i), i+1, api.OK)
	}
}

// P16.1: all letters and all others.
func TestGet(t *testing.T) {
	var m api.Marks
	for i := range m {
		m[i] = 100 + i
	}
	for b := range 256 {
		letter := byte(b)
		if letter >= 'a' && letter <= 'z' {
			checkGet(t, m, letter, 100+int(letter-'a'), api.OK)
		} else {
			checkGet(t, m, letter, 0, api.ErrMark)
		}
		checkGet(t, api.Marks{}, letter, 0, api.ErrMark)
	}
	for _, n := range append(slices.Clone(far), -1, 0, 1) {
		if n > 0 {
			checkGet(t, of(5, n), 'b', n, api.OK)
		} else {
			checkGet(t, of(5, n), 'b', 0, api.ErrMark)
		}
	}
}

// P16.2
func TestLine(t *testing.T) {
	for _, x := range []struct {
		n    int
		s    api.Splice
		want int
		ok   bool
	}{
		{1, sp(0, 0), 1, true},
		{1, sp(0, 0, "x"), 2, true},
		{1, sp(1, 0, "x"), 1, true},
		{1, sp(0, 1), 0, false},
		{1, sp(0, 1, "x"), 0, false}, // another line stands in its place
		{2, sp(0, 1), 1, true},
		{2, sp(0, 1, "x"), 2, true},
		{3, sp(1, 1), 2, true},
		{2, sp(1, 1, "x", "y"), 0, false},
		{2, sp(1, 2, "x"), 0, false},
		{3, sp(1, 2, "x"), 0, false},
		{4, sp(1, 2, "x"), 3, true},
		{1, sp(1, 2, "x"), 1, true},
		{2000, sp(0, 1999), 1, true},
		{2000, sp(0, 2000), 0, false},
		{2000, sp(2000, 1, "x"), 2000, true},
		{2000, many(0, 0, 2000), 4000, true},
		{0, sp(0, 0), 0, false},
		{0, sp(0, 0, "x"), 0, false},
		{-1, sp(0, 0, "x", "y", "z"), 0, false},
		{-1, sp(2, 0, "x"), 0, false},
		{1, sp(-1, 0), 0, false},
		{1, sp(-1, 1), 0, false},
		{1, sp(0, -1), 0, false},
		{1, sp(5, -1), 0, false},
		{5, sp(-1, -1, "x"), 0, false},
	} {
		checkLine(t, x.n, x.s, x.want, x.ok)
	}
}

// P16.2: numbers far from those of all lines.
func TestLineFar(t *testing.T) {
	const most = math.MaxInt
	for _, x := range []struct {
		n    int
		s    api.Splice
		want int
		ok   bool
	}{
		{most, sp(most, most, "x"), most, true},
		{most, sp(most-1, most, "x"), 0, false},
		{2, sp(1, most, "x"), 0, false},
		{1, sp(1, most, "x"), 1, true},
		{most, sp(1, most), 0, false},
		{most, sp(1, most-1), 0, false},
		{most, sp(1, most-2), 2, true},
		{most, sp(0, most-1, "x", "y"), 3, true},
		{most, sp(0, 0), most, true},
		{most, sp(0, 1, "x"), most, true},
		{most - 1, sp(0, 0, "x"), most, true},
		{most, sp(most-1, 0), most, true},
		{most, sp(0, 0, "x"), 0, false}, // no line has the number that would be next
		{most - 1, sp(5, 1, "x", "y", "z"), 0, false},
		{math.MinInt, sp(0, 0, "x"), 0, false},
		{math.MinInt, sp(0, most, "x"), 0, false},
		{math.MinInt, sp(most, 1), 0, false},
		{1, sp(math.MinInt, 0), 0, false},
		{1, sp(0, math.MinInt), 0, false},
		{1, sp(math.MinInt, math.MinInt), 0, false},
		{most, sp(math.MinInt, most), 0, false},
		{most, sp(most, math.MinInt), 0, false},
	} {
		checkLine(t, x.n, x.s, x.want, x.ok)
	}
}

// P16.2: marks that are none, or gone, are 0, and the others go where their lines go.
func TestShift(t *testing.T) {
	m := of(1, 2, 3, 4, 5, 0, -1, 2)
	m[25] = 6
	with := func(z int, numbers ...int) api.Marks {
		w := of(numbers...)
		w[25] = z
		return w
	}
	checkShift(t, m, sp(2, 1, "x", "y", "z"), with(8, 1, 2, 0, 6, 7, 0, 0, 2))
	checkShift(t, m, sp(0, 0), with(6, 1, 2, 3, 4, 5, 0, 0, 2))
	checkShift(t, m, sp(0, 0, "x"), with(7, 2, 3, 4, 5, 6, 0, 0, 3))
	checkShift(t, m, sp(0, 1), with(5, 0, 1, 2, 3, 4, 0, 0, 1))
	checkShift(t, m, sp(1, 1), with(5, 1, 0, 2, 3, 4, 0, 0, 0))
	checkShift(t, m, sp(6, 0, "x"), with(6, 1, 2, 3, 4, 5, 0, 0, 2))
	checkShift(t, m, sp(0, 6, "x"), api.Marks{})
	checkShift(t, m, sp(-1, 0), api.Marks{})
	checkShift(t, m, sp(9, -1), api.Marks{})
	checkShift(t, api.Marks{}, sp(0, 0, "x"), api.Marks{})
	checkShift(t, allOn(9), sp(3, 2, "x"), allOn(8))
	checkShift(t, allOn(4), sp(3, 2, "x"), api.Marks{})
}

// P16.2: one splice behind the other; what is gone stays gone.
func TestAll(t *testing.T) {
	m := of(1, 2, 3, 4)
	checkAll(t, m, nil, m)
	checkAll(t, m, []api.Splice{}, m)
	checkAll(t, m, []api.Splice{sp(1, 1, "x"), sp(0, 0, "y")}, of(2, 0, 4, 5))
	checkAll(t, m, []api.Splice{sp(0, 0, "y"), sp(1, 1, "x")}, of(0, 3, 4, 5))
	checkAll(t, m, []api.Splice{sp(0, 4), sp(0, 0, "a", "b", "c", "d")}, api.Marks{})
	checkAll(t, m, []api.Splice{sp(0, 2), sp(0, 0, "x"), sp(2, 1)}, of(0, 0, 2))
	checkAll(t, m, []api.Splice{sp(-1, 0), sp(0, 0, "x")}, api.Marks{})
	checkAll(t, m, []api.Splice{sp(0, 0, "x"), sp(0, -1)}, api.Marks{})
	long := make([]api.Splice, 5000)
	for i := range long {
		long[i] = sp(1, i%2, "x")
	}
	checkAll(t, of(1, 2, 0, 5000), long, of(1, 2502, 0, 7500))
}

// P16.3: each mark alone, at the edges.
func TestCheck(t *testing.T) {
	for i := range 26 {
		for _, n := range append(slices.Clone(far), -1, 0, 1, 2, 1999, 2000, 2001) {
			for _, line := range append(slices.Clone(far), -1, 0, 1, 2, 1999, 2000, 2001) {
				var m api.Marks
				m[i] = line
				if got, want := Check(m, n), n >= 0 && 0 <= line && line <= n; got != want {
					t.Errorf("Check of %d at %d of %d lines: %v", line, i, n, got)
				}
			}
		}
	}
	for _, x := range []struct {
		m    api.Marks
		n    int
		want bool
	}{
		{api.Marks{}, 0, true},
		{api.Marks{}, -1, false}, // 0 is not from 0 to -1
		{allOn(3), 3, true},
		{allOn(3), 2, false},
		{of(1, 2, 3), 3, true},
		{of(1, 3, 2), 2, false},
		{of(1, -1, 2), 2, false},
	} {
		if got := Check(x.m, x.n); got != x.want {
			t.Errorf("Check of %v of %d lines: %v", x.m, x.n, got)
		}
	}
}

// P16.2, P16.3, R4: what is handed in stays what it was.
func TestArguments(t *testing.T) {
	ins := []string{"x", "y"}
	l := []api.Splice{{At: 1, Del: 1, Ins: ins}, {At: 0, Del: 0, Ins: ins[:1]}}
	m := of(1, 2, 3)
	All(m, l)
	Shift(m, l[0])
	Set(m, 'a', 2, 3)
	if m != of(1, 2, 3) || !slices.Equal(ins, []string{"x", "y"}) || l[0].At != 1 || l[0].Del != 1 || l[1].Del != 0 || len(l[1].Ins) != 1 {
		t.Error(m, l)
	}
}
