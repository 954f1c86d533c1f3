package splices

import (
	"math"
	"slices"
	"strings"
	"testing"

	"inkhorn/api"
	"inkhorn/samples"
)

// far are numbers far from those of all lines, sums of which may go round.
var far = []int{math.MaxInt, math.MaxInt - 1, math.MaxInt/2 + 1, math.MaxInt32, 1 << 32, math.MinInt, math.MinInt + 1, math.MinInt32, -2000}

// numbered is n lines, each other than the ones beside it.
func numbered(n int) []string {
	l := make([]string, n)
	for i := range l {
		l[i] = strings.Repeat("x", i%7) + string(rune('a'+i%26))
	}
	return l
}

// longLine is a line of so many bytes.
func longLine(n int) string { return strings.Repeat("x", n) }

// bytesOf is a splice as it is told where it is at fault.
func bytesOf(s api.Splice) string { return plainBytes(s) }

// row is splices, one behind the other.
func row(list ...api.Splice) []api.Splice { return list }

// sp is a splice.
func sp(at, del int, ins ...string) api.Splice {
	return api.Splice{At: at, Del: del, Ins: ins}
}

func checkApply(t *testing.T, l []string, s api.Splice, want []string, e api.Errno) {
	t.Helper()
	if got, err := Apply(l, s); !slices.Equal(got, want) || err != e {
		t.Errorf("Apply of %.80q and %.80q: %.80q, %d, not %.80q, %d", l, bytesOf(s), got, err, want, e)
	}
}

func checkInverse(t *testing.T, l []string, s, want api.Splice, e api.Errno) {
	t.Helper()
	if got, err := Inverse(l, s); !sameSplice(got, want) || err != e {
		t.Errorf("Inverse of %.80q and %.80q: %.80q, %d, not %.80q, %d", l, bytesOf(s), bytesOf(got), err, bytesOf(want), e)
	}
}

func checkAll(t *testing.T, l []string, list []api.Splice, want []string, e api.Errno) {
	t.Helper()
	if got, err := All(l, list); !slices.Equal(got, want) || err != e {
		t.Errorf("All of %.80q and %d splices: %.80q, %d, not %.80q, %d", l, len(list), got, err, want, e)
	}
}

func checkDecode(t *testing.T, text string, want api.Splice, e api.Errno) {
	t.Helper()
	if got, err := Decode(text); !sameSplice(got, want) || err != e {
		t.Errorf("Decode of %.80q: %.80q, %d, not %.80q, %d", text, bytesOf(got), err, bytesOf(want), e)
	}
}

// checkNone tells where a splice of lines answers something else than this error, and nothing beside it.
func checkNone(t *testing.T, l []string, s api.Splice, e api.Errno) {
	t.Helper()
	checkApply(t, l, s, nil, e)
	checkInverse(t, l, s, api.Splice{}, e)
	checkAll(t, l, row(s), nil, e)
}

func TestExamples(t *testing.T) {
	l, s := []string{"a", "b", "c"}, sp(1, 1, "x", "y")
	checkApply(t, l, s, []string{"a", "x", "y", "c"}, api.OK)
	checkInverse(t, l, s, sp(1, 2, "b"), api.OK)
	checkNone(t, []string{"a"}, sp(1, 1), api.ErrArg)
	checkNone(t, []string{"a"}, sp(-1, 0), api.ErrArg)
	checkNone(t, []string{"a"}, sp(0, 0, "x\ny"), api.ErrArg)
	if text, e := Encode(sp(1, 2, "b", "")); text != "1:2:2:1:b0:" || e != api.OK {
		t.Errorf("%q, %d", text, e)
	}
	checkDecode(t, "1:2:2:1:b0:", sp(1, 2, "b", ""), api.OK)
}

// P15.1, P15.3
func TestCheck(t *testing.T) {
	many := make([]string, 2001)
	for _, x := range []struct {
		s    api.Splice
		want api.Errno
	}{
		{sp(0, 0), api.OK},
		{api.Splice{Ins: []string{}}, api.OK},
		{sp(0, 0, ""), api.OK},
		{sp(1, 0, "a", "\x00\r\xff"), api.OK},
		{sp(0, 1, longLine(1000)), api.OK},
		{sp(2000, 2000, numbered(2000)...), api.OK},
		{sp(math.MaxInt, math.MaxInt), api.OK}, // no lines of a buffer, but it may be
		{sp(-1, 0), api.ErrArg},
		{sp(0, -1), api.ErrArg},
		{sp(-1, -1), api.ErrArg},
		{sp(1, -1), api.ErrArg},
		{sp(-1, 1), api.ErrArg},
		{sp(math.MinInt, 0), api.ErrArg},
		{sp(0, math.MinInt), api.ErrArg},
		{sp(math.MinInt, math.MinInt), api.ErrArg},
		{sp(math.MinInt, math.MaxInt), api.ErrArg},
		{sp(0, 0, "\n"), api.ErrArg},
		{sp(0, 0, "a", "b\nc"), api.ErrArg},
		{sp(0, 0, longLine(1001), "\n"), api.ErrArg},
		{sp(0, 0, append(slices.Clone(many), "a\n")...), api.ErrArg},
		{sp(0, 0, "a", longLine(1001)), api.ErrLong},
		{sp(0, 0, many...), api.ErrLong},
		{sp(-1, 0, longLine(1001)), api.ErrArg},
		{sp(0, -1, many...), api.ErrArg},
	} {
		if got := Check(x.s); got != x.want {
			t.Errorf("Check of %.80q: %d, not %d", bytesOf(x.s), got, x.want)
		}
		if x.s.At >= 0 && x.s.Del >= 0 {
			checkEncode(t, x.s)
		} else if text, e := Encode(x.s); text != "" || e != x.want {
			t.Errorf("Encode of %.80q: %.80q, %d", bytesOf(x.s), text, e)
		}
	}
}

// P15.2: at the beginning, amid, and at the end; with nothing taken away, all, or nothing put there.
func TestApply(t *testing.T) {
	l := []string{"a", "b", "c"}
	for _, x := range []struct {
		l    []string
		s    api.Splice
		want []string
		back api.Splice
	}{
		{nil, sp(0, 0), nil, sp(0, 0)},
		{[]string{}, sp(0, 0, "x"), []string{"x"}, sp(0, 1)},
		{l, sp(0, 0), l, sp(0, 0)},
		{l, sp(3, 0), l, sp(3, 0)},
		{l, sp(0, 0, "x"), []string{"x", "a", "b", "c"}, sp(0, 1)},
		{l, sp(3, 0, "x"), []string{"a", "b", "c", "x"}, sp(3, 1)},
		{l, sp(1, 0, "x", ""), []string{"a", "x", "", "b", "c"}, sp(1, 2)},
		{l, sp(0, 3), nil, sp(0, 0, l...)},
		{l, sp(0, 1), []string{"b", "c"}, sp(0, 0, "a")},
		{l, sp(2, 1), []string{"a", "b"}, sp(2, 0, "c")},
		{l, sp(1, 2, "x"), []string{"a", "x"}, sp(1, 1, "b", "c")},
		{l, sp(0, 3, "x", "y", "z", "w"), []string{"x", "y", "z", "w"}, sp(0, 4, l...)},
		{l, sp(1, 1, "b"), l, sp(1, 1, "b")},
		{[]string{"", "\xff\x00"}, sp(1, 1, "\r"), []string{"", "\r"}, sp(1, 1, "\xff\x00")},
	} {
		checkApply(t, x.l, x.s, x.want, api.OK)
		checkInverse(t, x.l, x.s, x.back, api.OK)
		checkAll(t, x.l, row(x.s), x.want, api.OK)
		checkApply(t, x.want, x.back, x.l, api.OK)
	}
}

// P15.2: of splices that may be there may be lines too few.
func TestTooFew(t *testing.T) {
	l := []string{"a", "b", "c"}
	for _, s := range []api.Splice{
		sp(4, 0), sp(3, 1), sp(2, 2), sp(1, 3), sp(0, 4), sp(4, 4), sp(4, 0, "x"), sp(2, 2, "x"),
		sp(math.MaxInt, 0), sp(0, math.MaxInt), sp(math.MaxInt, 1), sp(1, math.MaxInt), // a sum of which goes round
		sp(3, math.MaxInt), sp(math.MaxInt, math.MaxInt), sp(math.MaxInt/2+1, math.MaxInt/2+1), sp(1<<62, 1<<62),
	} {
		checkNone(t, l, s, api.ErrArg)
		checkNone(t, nil, s, api.ErrArg)
	}
	checkNone(t, nil, sp(1, 0), api.ErrArg)
	checkNone(t, nil, sp(0, 1), api.ErrArg)
}

// P15.2: so many lines as there may be, and one more.
func TestTooMany(t *testing.T) {
	full := numbered(2000)
	checkApply(t, nil, sp(0, 0, full...), full, api.OK)
	checkApply(t, full, sp(1000, 0), full, api.OK)
	checkApply(t, full, sp(0, 2000, full...), full, api.OK)
	checkApply(t, full, sp(1999, 1, "x"), append(slices.Clone(full[:1999]), "x"), api.OK)
	checkApply(t, full[:1999], sp(1999, 0, "x"), append(slices.Clone(full[:1999]), "x"), api.OK)
	checkNone(t, full, sp(0, 0, ""), api.ErrLong)
	checkNone(t, full, sp(2000, 0, "x"), api.ErrLong)
	checkNone(t, full, sp(1000, 3, "a", "b", "c", "d"), api.ErrLong)
	checkNone(t, full, sp(0, 1999, full...), api.ErrLong)
	checkNone(t, full[:1], sp(0, 0, full...), api.ErrLong)
	checkNone(t, full[:1999], sp(7, 0, "a", "b"), api.ErrLong)
}

// P15.2, R5: of several errors the first one that is named is told.
func TestOrder(t *testing.T) {
	long, ended := []string{longLine(1001)}, []string{"a\nb"}
	full, many := numbered(2000), numbered(2001)
	for _, x := range []struct {
		l    []string
		s    api.Splice
		want api.Errno
	}{
		{many, sp(0, 1), api.ErrLong}, // though there would be no more than may be
		{long, sp(0, 1), api.ErrLong},
		{ended, sp(0, 1), api.ErrArg},
		{many, sp(-1, 0), api.ErrLong},
		{long, sp(0, 2), api.ErrLong},
		{long, sp(0, 0, ended...), api.ErrLong},
		{ended, sp(0, 0, long...), api.ErrArg},
		{append(slices.Clone(many), "\n"), sp(0, 0, long...), api.ErrArg},
		{nil, sp(-1, 0, long...), api.ErrArg},
		{nil, sp(0, -1, many...), api.ErrArg},
		{nil, sp(1, 0, long...), api.ErrLong}, // Check's error is named ahead of too few lines
		{nil, sp(0, 1, many...), api.ErrLong},
		{full, sp(2000, 1, "x", "y"), api.ErrArg}, // too few lines are named ahead of too many
		{full, sp(2001, 0, "x"), api.ErrArg},
	} {
		checkNone(t, x.l, x.s, x.want)
	}
}

// P15.2
func TestAll(t *testing.T) {
	l := []string{"a", "b"}
	full := numbered(2000)
	for _, x := range []struct {
		l    []string
		list []api.Splice
		want []string
		e    api.Errno
	}{
		{nil, nil, nil, api.OK},
		{l, nil, l, api.OK},
		{l, []api.Splice{}, l, api.OK},
		{full, nil, full, api.OK},
		{numbered(2001), nil, nil, api.ErrLong}, // lines are held against, even if nothing is done
		{[]string{longLine(1001)}, nil, nil, api.ErrLong},
		{[]string{"a\n"}, nil, nil, api.ErrArg},
		{[]string{"a\n"}, row(sp(0, 0, longLine(1001))), nil, api.ErrArg},
		{l, row(sp(0, 0, "x"), sp(1, 1, "y")), []string{"x", "y", "b"}, api.OK},
		{l, row(sp(2, 0, "c"), sp(3, 0, "d"), sp(0, 3)), []string{"d"}, api.OK}, // the next one counts what came of the one ahead
		{nil, row(sp(0, 0, "a"), sp(0, 1), sp(0, 0, "b")), []string{"b"}, api.OK},
		{l, row(sp(0, 1), sp(2, 0)), nil, api.ErrArg},
		{l, row(sp(3, 0), sp(0, 0, longLine(1001))), nil, api.ErrArg}, // the first error, not the next one
		{l, row(sp(0, 0, longLine(1001)), sp(3, 0)), nil, api.ErrLong},
		{l, row(sp(0, 2), sp(0, 0), sp(-1, 0), sp(0, 0, "x")), nil, api.ErrArg},
		{l, row(sp(0, 0, "x"), sp(0, -1)), nil, api.ErrArg},
		{l, row(sp(0, 0, "x"), sp(0, 0, "\n")), nil, api.ErrArg},
		{full, row(sp(0, 1), sp(0, 0, full[0])), full, api.OK},
		{full, row(sp(0, 0, "x"), sp(0, 1)), nil, api.ErrLong}, // no more than may be between, either
		{full, row(sp(0, 1), sp(0, 0, "x", "y"), sp(0, 9)), nil, api.ErrLong},
	} {
		checkAll(t, x.l, x.list, x.want, x.e)
	}
}

// P15.2: a change of as many splices as there are lines, all of them as long as may be.
func TestAllOfMany(t *testing.T) {
	full := slices.Repeat([]string{longLine(1000)}, 2000)
	list, want := []api.Splice{}, []string{}
	for i := range full {
		list = append(list, sp(i, 1, "x"))
		want = append(want, "x")
	}
	checkAll(t, full, list, want, api.OK)
}

// P15.3: texts that are no splice's bytes, as nums do not stand there.
func TestDecodeOfNone(t *testing.T) {
	for _, text := range []string{
		"", ":", "0", "0:", "0:0", "0:0:", "0:0:0", "0:0:1:", "0:0:1:1:", "0:0:2:0:", "0:0:1:2:a", "0:0:-1:", "0:0:1:-1:",
		"-1:0:0:", "0:-1:0:", "+1:0:0:", "00:0:0:", "0:01:0:", "0:0:00:", "0:0:01:1:a", "0:0:1:01:a", " 0:0:0:", "0: 0:0:", "0x0:0:0:",
		"0:0:0: ", "0:0:0:\n", "0:0:0:0", "0:0:0:0:", "0:0:0:0:0:0:", "0:0:1:1:ab", "0:0:1:0:x", "1:2:2:1:b0:x", "x0:0:0:",
		"9223372036854775808:0:0:", "0:9223372036854775808:0:", "0:0:9223372036854775808:", "18446744073709551616:0:0:",
		"0:0:9223372036854775807:", "0:0:9223372036854775807:0:0:", "0:0:1:9223372036854775807:", "0:0:1:9223372036854775807:a",
		"a:b:c:", "0;0;0;", "0:0\x00:0:", "\xff", "\u0660:0:0:",
	} {
		checkDecode(t, text, api.Splice{}, api.ErrForm)
	}
	for _, s := range []api.Splice{sp(0, 0), sp(math.MaxInt, math.MaxInt), sp(1, 2, ":"), sp(10, 0, "0:", "", "1:a")} {
		checkDecode(t, plainBytes(s), s, api.OK)
	}
}

// P15.3: the bytes of splices that may not be: ErrForm, not Check's error.
func TestDecodeOfWrong(t *testing.T) {
	for _, s := range []api.Splice{
		sp(0, 0, "\n"), sp(0, 0, "a", "b\nc"), sp(3, 4, longLine(1001)), sp(0, 0, make([]string, 2001)...), sp(0, 0, make([]string, 100000)...),
	} {
		if Check(s) == api.OK {
			t.Errorf("%.80q may be", bytesOf(s))
		}
		checkDecode(t, plainBytes(s), api.Splice{}, api.ErrForm)
	}
	full := sp(2000, 2000, slices.Repeat([]string{longLine(1000)}, 2000)...)
	checkDecode(t, plainBytes(full), full, api.OK)
}

// P15.3, P15.4: of what is cut off, or goes on, nothing is decoded; of other bytes just what is encoded so.
func TestDecodeOfOthers(t *testing.T) {
	for _, ins := range samples.Lists([]string{"", "a", "1:", "\xff0"}, 2) {
		for _, n := range []int{0, 7, 10, 300} {
			checkOthers(t, plainBytes(sp(n, n/2, ins...)))
		}
	}
}

// checkOthers decodes a splice's bytes that were cut off, that go on, or one of which is another one.
func checkOthers(t *testing.T, text string) {
	t.Helper()
	for i := range text {
		checkDecode(t, text[:i], api.Splice{}, api.ErrForm)
		for b := range 256 {
			other := text[:i] + string([]byte{byte(b)}) + text[i+1:]
			s, e := Decode(other)
			if e == api.ErrForm && s.At == 0 && s.Del == 0 && len(s.Ins) == 0 {
				continue
			}
			if again, err := Encode(s); e != api.OK || err != api.OK || again != other {
				t.Errorf("Decode of %q: %q, %d", other, bytesOf(s), e)
			}
		}
	}
	for b := range 256 {
		checkDecode(t, text+string([]byte{byte(b)}), api.Splice{}, api.ErrForm)
	}
	checkDecode(t, text+text, api.Splice{}, api.ErrForm)
}

// R4: what is handed in stays, even what stands in a list's room behind it.
func TestArgumentsStay(t *testing.T) {
	room := []string{"a", "b", "c", "d", "e"}
	some := []string{"x", "y", "z"}
	for at := range 4 {
		for del := range 4 - at {
			s := sp(at, del, some[:2]...)
			Check(s)
			Apply(room[:3], s)
			Inverse(room[:3], s)
			All(room[:3], row(s, s))
			Encode(s)
		}
	}
	if !slices.Equal(room, []string{"a", "b", "c", "d", "e"}) || !slices.Equal(some, []string{"x", "y", "z"}) {
		t.Errorf("%q, %q", room, some)
	}
}

// R2, R4: what is done to an answer, or to what was handed in, changes no other one.
func TestAnswersAreNew(t *testing.T) {
	l := []string{"a", "b", "c"}
	for _, s := range []api.Splice{sp(0, 0), sp(3, 0), sp(0, 3), sp(1, 1, "x"), sp(0, 3, "x", "y")} {
		own := clone(s)
		answers := [][]string{}
		for range 2 {
			applied, _ := Apply(l, s)
			inverse, _ := Inverse(l, s)
			none, _ := All(l, nil)
			one, _ := All(l, row(s))
			two, _ := All(l, row(s, sp(0, 0)))
			answers = append(answers, applied, inverse.Ins, none, one, two)
		}
		for i, answer := range answers {
			checkOwn(t, answer, slices.Concat(answers[:i], answers[i+1:], [][]string{l, s.Ins}))
		}
		if !slices.Equal(l, []string{"a", "b", "c"}) || !sameSplice(s, own) {
			t.Errorf("%q, %q", l, bytesOf(s))
		}
	}
}

// checkOwn lays other lines in the place of a list's, and behind it, and tells where that changes others.
func checkOwn(t *testing.T, list []string, others [][]string) {
	t.Helper()
	were := slices.Concat(others...)
	all := append(list, "!", "!")
	old := slices.Clone(list)
	for i := range list {
		list[i] = "!"
	}
	for i := range all {
		all[i] = "!"
	}
	if now := slices.Concat(others...); !slices.Equal(now, were) {
		t.Errorf("%q is shared: %q, not %q", old, now, were)
	}
	copy(list, old)
}

// R4: what is decoded is no other's, either.
func TestDecodedIsNew(t *testing.T) {
	text := "0:0:2:1:a1:b"
	one, _ := Decode(text)
	other, _ := Decode(text)
	one.Ins[0] = "!"
	if !sameSplice(other, sp(0, 0, "a", "b")) {
		t.Error(bytesOf(other))
	}
	checkDecode(t, text, sp(0, 0, "a", "b"), api.OK)
}

// P15.4: a splice, and its inverse, lead back; the inverse's inverse does it again.
func TestInverse(t *testing.T) {
	for _, l := range samples.Lists([]string{"", "a", "b"}, 3) {
		for at := range len(l) + 1 {
			for del := range len(l) - at + 1 {
				for _, ins := range samples.Lists([]string{"", "a"}, 2) {
					checkBack(t, l, row(sp(at, del, ins...)))
				}
			}
		}
	}
	full := numbered(2000)
	for _, s := range []api.Splice{sp(0, 2000), sp(0, 2000, "x"), sp(0, 2000, full...), sp(2000, 0), sp(1999, 1, "x")} {
		checkBack(t, full, row(s))
	}
	checkBack(t, nil, row(sp(0, 0, full...)))
}
