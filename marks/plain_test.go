package marks

import (
	"slices"
	"strconv"
	"testing"

	"inkhorn/api"
	"inkhorn/splices"
)

// plainSplice is what comes of lines by the document's words, which are gone through line by line.
func plainSplice(l []string, s api.Splice) []string {
	var all []string
	for i, line := range l {
		if i == s.At {
			all = append(all, s.Ins...)
		}
		if i < s.At || i >= s.At+s.Del {
			all = append(all, line)
		}
	}
	if s.At == len(l) {
		all = append(all, s.Ins...)
	}
	return all
}

// numbered is n lines, each other than all others.
func numbered(n int) []string {
	l := make([]string, n)
	for i := range l {
		l[i] = strconv.Itoa(i)
	}
	return l
}

// plainLine is where a line is behind a splice by where what is in it stands then; 0: it is not there any more.
func plainLine(n int, s api.Splice) int {
	if n < 1 || s.At < 0 || s.Del < 0 {
		return 0
	}
	l := numbered(max(n, s.At+s.Del))
	return 1 + slices.Index(plainSplice(l, s), l[n-1])
}

// P16.2: all small numbers, those that are none among them.
func TestAllSmall(t *testing.T) {
	for n := -2; n <= 9; n++ {
		for at := -2; at <= 9; at++ {
			for del := -2; del <= 9; del++ {
				for ins := range 5 {
					s := many(at, del, ins)
					want := plainLine(n, s)
					checkLine(t, n, s, want, want > 0)
					checkShift(t, of(0, n), s, of(0, want))
				}
			}
		}
	}
}

// draw is a row of numbers that looks like one by chance.
type draw uint64

func (d *draw) below(n int) int {
	*d = *d*6364136223846793005 + 1442695040888963407
	return int(uint64(*d)>>33) % n
}

// marks are some of a buffer of so many lines, some of which are not set.
func (d *draw) marks(n int) api.Marks {
	var m api.Marks
	for i := range m {
		m[i] = d.below(n + 1)
	}
	return m
}

// splice is one that may be done to so many lines.
func (d *draw) splice(size, most int) api.Splice {
	at := d.below(size + 1)
	ins := make([]string, d.below(most+1))
	for i := range ins {
		ins[i] = "new"
	}
	return api.Splice{At: at, Del: d.below(min(size-at, most) + 1), Ins: ins}
}

// checkSame tells where a mark lies on another line than before, by what is in it, or is gone though its line is there.
func checkSame(t *testing.T, l []string, m api.Marks, now []string, next api.Marks) {
	t.Helper()
	if !Check(next, len(now)) {
		t.Fatalf("%v: no marks of %d lines", next, len(now))
	}
	for i, n := range m {
		want := 0
		if n > 0 {
			want = 1 + slices.Index(now, l[n-1])
		}
		if next[i] != want {
			t.Fatalf("mark %d, on %d before, is on %d, not on %d", i, n, next[i], want)
		}
	}
}

// P16.4: drawn marks of drawn buffers, by one splice, and by rows of them.
func TestDrawn(t *testing.T) {
	d := draw(16)
	for range 400 {
		size := d.below(40)
		l := numbered(size)
		m := d.marks(size)
		now, row := l, []api.Splice{}
		for range 6 {
			s := d.splice(len(now), 8)
			row = append(row, s)
			now = plainSplice(now, s)
			checkSame(t, l, m, now, All(m, row))
		}
		one := d.splice(size, 12)
		checkSame(t, l, m, plainSplice(l, one), Shift(m, one))
	}
}

// P16.4: the greatest buffers, and splices as they are done to them.
func TestDrawnGreat(t *testing.T) {
	d := draw(61)
	for range 30 {
		l := numbered(1990 + d.below(11))
		m := d.marks(len(l))
		now, next := l, m
		for range 20 {
			s := d.splice(len(now), 300)
			done, e := splices.Apply(now, s)
			if e != api.OK {
				continue
			}
			now, next = done, Shift(next, s)
			checkSame(t, l, m, now, next)
		}
	}
}

// P16.4: the way back leads marks to their lines again, but for those whose lines were gone.
func TestBack(t *testing.T) {
	d := draw(46)
	for range 300 {
		l := numbered(d.below(30))
		m := d.marks(len(l))
		s := d.splice(len(l), 9)
		back, e := splices.Inverse(l, s)
		if e != api.OK {
			t.Fatal(e)
		}
		want := m
		for i, n := range m {
			if _, ok := Line(n, s); !ok {
				want[i] = 0
			}
		}
		checkAll(t, m, []api.Splice{s, back}, want)
	}
}
