package splices

import (
	"slices"
	"strconv"
	"strings"
	"testing"

	"inkhorn/api"
	"inkhorn/samples"
)

// plainLines is what stands against lines by the document's words, or OK.
func plainLines(l []string) api.Errno {
	for _, line := range l {
		if strings.Contains(line, "\n") {
			return api.ErrArg
		}
	}
	for _, line := range l {
		if len(l) > 2000 || len(line) > 1000 {
			return api.ErrLong
		}
	}
	return api.OK
}

// plainSplice is what stands against a splice by the document's words, or OK.
func plainSplice(s api.Splice) api.Errno {
	if s.At < 0 || s.Del < 0 {
		return api.ErrArg
	}
	return plainLines(s.Ins)
}

// plainApply is what comes of lines by the document's words, which are gone through line by line, and the lines that went.
func plainApply(l []string, s api.Splice) (all, gone []string, e api.Errno) {
	if e := plainLines(l); e != api.OK {
		return nil, nil, e
	}
	if e := plainSplice(s); e != api.OK {
		return nil, nil, e
	}
	ahead, del := s.At, s.Del
	for i := 0; i <= len(l); i++ {
		if i == s.At {
			all = append(all, s.Ins...)
		}
		switch {
		case i == len(l):
		case ahead > 0:
			ahead--
			all = append(all, l[i])
		case del > 0:
			del--
			gone = append(gone, l[i])
		default:
			all = append(all, l[i])
		}
	}
	if ahead > 0 || del > 0 {
		return nil, nil, api.ErrArg
	}
	if len(all) > 2000 {
		return nil, nil, api.ErrLong
	}
	return all, gone, api.OK
}

// plainBytes is a splice's bytes by the document's words.
func plainBytes(s api.Splice) string {
	put := func(n int) string { return strconv.Itoa(n) + ":" }
	all := []string{put(s.At), put(s.Del), put(len(s.Ins))}
	for _, line := range s.Ins {
		all = append(all, put(len(line)), line)
	}
	return strings.Join(all, "")
}

func sameSplice(a, b api.Splice) bool {
	return a.At == b.At && a.Del == b.Del && slices.Equal(a.Ins, b.Ins)
}

// clone is a splice whose lines are its own.
func clone(s api.Splice) api.Splice {
	return api.Splice{At: s.At, Del: s.Del, Ins: slices.Clone(s.Ins)}
}

// checkPlain holds all that is told of a splice of lines against these words, and whether both stay what they were.
func checkPlain(t *testing.T, l []string, s api.Splice) {
	t.Helper()
	ownLines, own := slices.Clone(l), clone(s)
	all, gone, e := plainApply(ownLines, own)
	checkApply(t, l, s, all, e)
	checkAll(t, l, []api.Splice{s}, all, e)
	want := api.Splice{}
	if e == api.OK {
		want = api.Splice{At: s.At, Del: len(s.Ins), Ins: gone}
	}
	checkInverse(t, l, s, want, e)
	checkEncode(t, s)
	if !slices.Equal(l, ownLines) || !sameSplice(s, own) {
		t.Fatalf("%.80q, %.80q: no more what they were: %.80q, %.80q", ownLines, bytesOf(own), l, bytesOf(s))
	}
}

// checkEncode holds a splice's bytes, and what stands against it, against these words.
func checkEncode(t *testing.T, s api.Splice) {
	t.Helper()
	e, want := plainSplice(s), ""
	if e == api.OK {
		want = plainBytes(s)
	}
	if got := Check(s); got != e {
		t.Errorf("Check of %.80q: %d, not %d", bytesOf(s), got, e)
	}
	if got, err := Encode(s); got != want || err != e {
		t.Errorf("Encode of %.80q: %.80q, %d, not %.80q, %d", bytesOf(s), got, err, want, e)
	}
	if e == api.OK {
		checkDecode(t, want, s, api.OK)
	}
}

// P15.1 to P15.3: all short lists, and all splices of them with few lines, those that may not be or be done among them.
func TestAllShort(t *testing.T) {
	some := samples.Lists([]string{"", "x", "a\n"}, 3)
	for _, l := range samples.Lists([]string{"", "a", "b", "\n"}, 3) {
		for at := -2; at <= 5; at++ {
			for del := -2; del <= 5; del++ {
				for _, ins := range some {
					checkPlain(t, l, api.Splice{At: at, Del: del, Ins: ins})
				}
			}
		}
	}
}

// P15.1 to P15.3: numbers far from those of all lines, sums of which may go round.
func TestFar(t *testing.T) {
	numbers := append(slices.Clone(far), -1, 0, 1, 2, 3, 4, 2000, 2001)
	for _, l := range [][]string{nil, {"a"}, {"a", "b", "c"}, numbered(2000), numbered(2001), {"a\nb"}} {
		for _, at := range numbers {
			for _, del := range numbers {
				for _, ins := range [][]string{nil, {"x", ""}, {"x\n"}, {longLine(1001)}} {
					checkPlain(t, l, api.Splice{At: at, Del: del, Ins: ins})
				}
			}
		}
	}
}

// draw is a row of numbers that looks like one by chance.
type draw uint64

func (d *draw) below(n int) int {
	*d = *d*6364136223846793005 + 1442695040888963407
	return int(uint64(*d)>>33) % n
}

// lines are so many lines, of any bytes but 10.
func (d *draw) lines(n int) []string {
	l := make([]string, n)
	for i := range l {
		b := make([]byte, d.below(9))
		for k := range b {
			if b[k] = byte(d.below(256)); b[k] == '\n' {
				b[k] = '1'
			}
		}
		l[i] = string(b)
	}
	return l
}

// splice is one that may be done to so many lines, but that there may be too many then.
func (d *draw) splice(size, most int) api.Splice {
	at := d.below(size + 1)
	return api.Splice{At: at, Del: d.below(min(size-at, most) + 1), Ins: d.lines(d.below(most + 1))}
}

// P15.1 to P15.3: drawn splices of drawn lines, at the limit, too.
func TestDrawn(t *testing.T) {
	d := draw(15)
	for range 3000 {
		l := d.lines(d.below(30))
		checkPlain(t, l, d.splice(len(l), 12))
	}
	for range 60 {
		l := d.lines(1970 + d.below(31))
		checkPlain(t, l, d.splice(len(l), 60))
	}
}

// P15.2, P15.4: long rows of splices, one by one and all at once, and the way back. Many of them come to too many lines.
func TestDrawnRows(t *testing.T) {
	d := draw(51)
	for n := range 30 {
		l := d.lines([]int{0, 5, 1990}[n%3])
		now, row := slices.Clone(l), []api.Splice{}
		for range 80 {
			s := d.splice(len(now), 15)
			next, _, e := plainApply(now, s)
			checkAll(t, l, append(row, s), next, e)
			if e == api.OK {
				now, row = next, append(row, s)
			}
		}
		checkAll(t, l, row, now, api.OK)
		checkBack(t, l, row)
	}
}

// checkBack undoes a row of splices, the last one first, and does them again.
func checkBack(t *testing.T, l []string, row []api.Splice) {
	t.Helper()
	var back, again []api.Splice
	now := l
	for _, s := range row {
		inverse, e := Inverse(now, s)
		if e != api.OK {
			t.Fatalf("Inverse of %.80q: %d", bytesOf(s), e)
		}
		back = append(back, inverse)
		now, _ = Apply(now, s)
	}
	slices.Reverse(back)
	checkAll(t, now, back, l, api.OK)
	end := now
	for _, s := range back {
		inverse, _ := Inverse(now, s)
		again = append(again, inverse)
		now, _ = Apply(now, s)
	}
	slices.Reverse(again)
	checkAll(t, l, again, end, api.OK)
	if !slices.EqualFunc(again, row, sameSplice) {
		t.Errorf("the inverse's inverse of some splice is another one")
	}
}

// P15.3: all short texts: those that are a splice's bytes, and all others.
func TestAllTexts(t *testing.T) {
	spliceOf := map[string]api.Splice{}
	for _, at := range []int{0, 1, 10, 11} {
		for _, del := range []int{0, 1, 10, 11} {
			for _, ins := range samples.Lists([]string{"", "0", "1", ":"}, 2) {
				s := api.Splice{At: at, Del: del, Ins: ins}
				spliceOf[plainBytes(s)] = s
			}
		}
	}
	found := 0
	for _, text := range samples.Texts("01:", 11) {
		s, ok := spliceOf[text]
		if ok {
			found++
			checkDecode(t, text, s, api.OK)
		} else if !longNumber(text) {
			checkDecode(t, text, api.Splice{}, api.ErrForm)
		}
	}
	if found < 50 {
		t.Error(found)
	}
}

// longNumber tells whether one of a text's first two numbers has more digits than those that are gone through.
func longNumber(text string) bool {
	at, rest, _ := strings.Cut(text, ":")
	del, _, _ := strings.Cut(rest, ":")
	return len(at) > 2 || len(del) > 2
}
