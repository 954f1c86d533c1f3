package pieces

import (
	"slices"
	"testing"
)

// draw tells numbers from 0 on, below n, always the same ones one behind the other.
type draw uint64

func (d *draw) below(n int) int {
	*d = *d*6364136223846793005 + 1442695040888963407
	return int(*d>>33) % n
}

// line is a line of few that there are.
func (d *draw) line() string {
	const all = "abcdefgh"
	n := d.below(4)
	return all[n : n+d.below(4)]
}

func (d *draw) lines(most int) []string {
	l := make([]string, d.below(most+1))
	for i := range l {
		l[i] = d.line()
	}
	return l
}

// kept is a table, the lines that it has to have, and its pieces.
type kept struct {
	table  *Table
	lines  []string
	pieces int
}

func keep(x *Table, l []string) kept { return kept{x, l, x.Pieces()} }

// P7.3, P7.4, P7.5: tables that come of each other, all of which stay.
func TestDrawnTablesStay(t *testing.T) {
	for seed := range 40 {
		d := draw(seed)
		first := d.lines(20)
		all := []kept{keep(New(first), first)}
		for range 200 {
			// most often the newest one, so that its pieces get many
			from := all[len(all)-1]
			if d.below(8) == 0 {
				from = all[d.below(len(all))]
			}
			all = append(all, next(t, &d, from))
		}
		for _, x := range all {
			checkTable(t, x.table, x.lines)
			if x.table.Pieces() != x.pieces {
				t.Errorf("%d pieces, not %d", x.table.Pieces(), x.pieces)
			}
		}
	}
}

// next is a table that is drawn to come of another one.
func next(t *testing.T, d *draw, from kept) kept {
	t.Helper()
	if d.below(30) == 0 {
		x := from.table.Compact()
		if x.Pieces() > 1 {
			t.Errorf("%d pieces behind Compact", x.Pieces())
		}
		return keep(x, from.lines)
	}
	at := d.below(len(from.lines) + 1)
	del := min(d.below(6), len(from.lines)-at)
	ins := d.lines(5)
	x := spliced(t, from.table, at, del, ins)
	if x.Pieces() > from.pieces+2 {
		t.Errorf("%d pieces more", x.Pieces()-from.pieces)
	}
	checkRange(t, d, x, laid(from.lines, at, del, ins))
	back := spliced(t, x, at, len(ins), from.table.Lines(at+1, at+del))
	checkTable(t, back, from.lines)
	want := laid(from.lines, at, del, ins)
	for i := range ins { // the list that was handed in is its owner's
		ins[i] = "spoilt"
	}
	return keep(x, want)
}

// P7.2: checkRange tells where a stretch that is drawn is told otherwise.
func checkRange(t *testing.T, d *draw, x *Table, l []string) {
	t.Helper()
	from, to := d.below(len(l)+3)-1, d.below(len(l)+3)-1
	low, high := min(max(from-1, 0), len(l)), min(max(to, 0), len(l))
	want := l[low:max(low, high)]
	if got := x.Lines(from, to); !slices.Equal(got, want) {
		t.Errorf("Lines(%d, %d) of %q: %q", from, to, l, got)
	}
}
