package regs

import (
	"slices"
	"strings"
	"testing"

	"inkhorn/api"
)

// whole is text of whole lines.
func whole(l ...string) api.Reg { return api.Reg{Lines: l, Whole: true} }

// part is a stretch of bytes.
func part(l ...string) api.Reg { return api.Reg{Lines: l} }

// long is a line of so many bytes.
func long(n int) string { return strings.Repeat("x", n) }

// many is so many lines, each other than the ones beside it.
func many(n int) []string {
	l := make([]string, n)
	for i := range l {
		l[i] = strings.Repeat("y", i%5) + string(rune('a'+i%26))
	}
	return l
}

// none is text of which no register has any, the one that all calls answer that tell an error.
var none = api.Reg{}

func same(a, b api.Reg) bool {
	return a.Whole == b.Whole && slices.Equal(a.Lines, b.Lines)
}

// said is text in a few words.
func said(x api.Reg) string {
	kind := "stretch"
	if x.Whole {
		kind = "whole"
	}
	text := strings.Join(x.Lines, "|")
	return kind + " " + text[:min(len(text), 80)]
}

// checkGet holds what a register has, and what stands against it, against what is wanted.
func checkGet(t *testing.T, r *Regs, letter byte, want api.Reg, e api.Errno) {
	t.Helper()
	if got, err := r.Get(letter); !same(got, want) || err != e {
		t.Errorf("Get %q: %s, %d, not %s, %d", letter, said(got), err, said(want), e)
	}
}

// checkHas holds a register that has text against it.
func checkHas(t *testing.T, r *Regs, letter byte, want api.Reg) {
	t.Helper()
	checkGet(t, r, letter, want, api.OK)
}

// checkOnly holds all registers there are, and what is none, against those that have text.
func checkOnly(t *testing.T, r *Regs, has map[byte]api.Reg) {
	t.Helper()
	for b := range 256 {
		letter := byte(b)
		key := letter
		if letter >= 'A' && letter <= 'Z' {
			key = letter + 32
		}
		if want, ok := has[key]; ok {
			checkHas(t, r, letter, want)
		} else {
			checkGet(t, r, letter, none, api.ErrReg)
		}
	}
}

func checkSet(t *testing.T, r *Regs, letter byte, x api.Reg, want api.Errno) {
	t.Helper()
	if e := r.Set(letter, x); e != want {
		t.Errorf("Set %q %s: %d, not %d", letter, said(x), e, want)
	}
}

func checkPush(t *testing.T, r *Regs, x api.Reg, want api.Errno) {
	t.Helper()
	if e := r.Push(x); e != want {
		t.Errorf("Push %s: %d, not %d", said(x), e, want)
	}
}

func checkJoin(t *testing.T, a, b, want api.Reg) {
	t.Helper()
	if got := Join(a, b); !same(got, want) {
		t.Errorf("Join of %s and %s: %s, not %s", said(a), said(b), said(got), said(want))
	}
}

// wrong is what no register may have.
func wrong() []api.Reg {
	return []api.Reg{
		{}, {Whole: true}, {Lines: []string{}}, {Lines: []string{}, Whole: true},
		part("\n"), whole("\n"), part("a\n"), part("\na"), whole("a", "b\nc"), whole("a\n", "b"),
		part(long(1001)), whole(long(1001)), part("a", long(1001)), whole(long(1001), "a"), part(long(5000)),
		part(many(2001)...), whole(many(2001)...), whole(make([]string, 2001)...),
		part(long(1001), "\n"), whole(append(many(2001), "\n")...),
	}
}

// right is what one may have.
func right() []api.Reg {
	var all []api.Reg
	for _, l := range [][]string{
		{""}, {"a"}, {"", ""}, {"a", "", "b"}, {"\r", "\x00\t\v\f\x85\xff"}, {long(999)}, {long(1000)},
		{"a", long(1000), ""}, many(1999), many(2000), make([]string, 2000), slices.Repeat([]string{long(1000)}, 2000),
	} {
		all = append(all, part(l...), whole(l...))
	}
	return all
}

func TestExamples(t *testing.T) {
	r := New()
	checkSet(t, r, 'a', whole("one"), api.OK)
	checkSet(t, r, 'A', whole("two"), api.OK)
	checkHas(t, r, 'a', whole("one", "two"))
	checkHas(t, r, 0, whole("two"))
	checkSet(t, r, 'b', part("x"), api.OK)
	checkSet(t, r, 'B', part("y", "z"), api.OK)
	checkHas(t, r, 'b', part("xy", "z"))
	checkPush(t, r, part("p"), api.OK)
	checkPush(t, r, part("q"), api.OK)
	checkHas(t, r, '1', part("q"))
	checkHas(t, r, '2', part("p"))
	checkGet(t, r, '3', none, api.ErrReg)
}

// P17.3
func TestCheck(t *testing.T) {
	for _, x := range right() {
		if !Check(x) {
			t.Errorf("Check of %s: false", said(x))
		}
	}
	for _, x := range wrong() {
		if Check(x) {
			t.Errorf("Check of %s: true", said(x))
		}
	}
}

// P17.1, P17.3: at first none has text.
func TestNew(t *testing.T) {
	checkOnly(t, New(), nil)
	r := New()
	checkSet(t, r, 'a', part("x"), api.OK)
	checkOnly(t, New(), nil) // New ones are others each time.
	checkOnly(t, r, map[byte]api.Reg{'a': part("x"), 0: part("x")})
}

// P17.1: each letter, and each byte that is none, into registers that have no text.
func TestSetLetters(t *testing.T) {
	x := whole("one", "")
	for b := range 256 {
		r := New()
		letter := byte(b)
		switch {
		case letter == 0:
			checkSet(t, r, letter, x, api.OK)
			checkOnly(t, r, map[byte]api.Reg{0: x})
		case letter >= 'a' && letter <= 'z':
			checkSet(t, r, letter, x, api.OK)
			checkOnly(t, r, map[byte]api.Reg{letter: x, 0: x})
		case letter >= 'A' && letter <= 'Z':
			checkSet(t, r, letter, x, api.OK)
			checkOnly(t, r, map[byte]api.Reg{letter + 32: x, 0: x})
		default: // the digits, too
			checkSet(t, r, letter, x, api.ErrReg)
			checkOnly(t, r, nil)
		}
	}
}

// filled is registers all of which have text, and that text.
func filled(t *testing.T) (*Regs, map[byte]api.Reg) {
	t.Helper()
	r, has := New(), map[byte]api.Reg{}
	for n := byte('9'); n >= '1'; n-- {
		has[n] = part("number", string(rune(n)))
		checkPush(t, r, has[n], api.OK)
	}
	for letter := byte('a'); letter <= 'z'; letter++ {
		has[letter] = api.Reg{Lines: []string{"letter", string(rune(letter))}, Whole: letter%2 == 0}
		checkSet(t, r, letter, has[letter], api.OK)
	}
	has[0] = part("unnamed")
	checkSet(t, r, 0, has[0], api.OK)
	checkOnly(t, r, has)
	return r, has
}

// P17.1, P17.4: each letter, and each byte that is none, where all registers have text.
func TestSetFilled(t *testing.T) {
	for b := range 256 {
		r, has := filled(t)
		letter, x := byte(b), part("new", "one")
		switch {
		case letter == 0:
			has[0] = x
		case letter >= 'a' && letter <= 'z':
			has[letter], has[0] = x, x
		case letter >= 'A' && letter <= 'Z' && has[letter+32].Whole:
			has[letter+32], has[0] = whole("letter", string(rune(letter+32)), "new", "one"), x
		case letter >= 'A' && letter <= 'Z':
			has[letter+32], has[0] = part("letter", string(rune(letter+32))+"new", "one"), x
		default:
			checkSet(t, r, letter, x, api.ErrReg)
			checkOnly(t, r, has)
			continue
		}
		checkSet(t, r, letter, x, api.OK)
		checkOnly(t, r, has)
	}
}

// P17.1, P17.2, R2, R5: what no register may have is told ahead of what is no letter, and changes nothing.
func TestWrong(t *testing.T) {
	r, has := filled(t)
	for _, x := range wrong() {
		for b := range 256 {
			checkSet(t, r, byte(b), x, api.ErrArg)
		}
		checkPush(t, r, x, api.ErrArg)
		checkOnly(t, r, has)
	}
	r = New()
	for _, x := range wrong() {
		checkSet(t, r, 'a', x, api.ErrArg)
		checkSet(t, r, 'A', x, api.ErrArg)
		checkSet(t, r, 0, x, api.ErrArg)
		checkPush(t, r, x, api.ErrArg)
		checkOnly(t, r, nil)
	}
}

// P17.1, P17.2: all that may be is laid and told.
func TestRight(t *testing.T) {
	for _, x := range right() {
		for _, letter := range []byte{'a', 'z', 'A', 'Z'} {
			r := New()
			checkSet(t, r, letter, x, api.OK)
			checkHas(t, r, letter, x)
			checkHas(t, r, 0, x)
		}
		r := New()
		checkSet(t, r, 0, x, api.OK)
		checkOnly(t, r, map[byte]api.Reg{0: x})
		checkPush(t, r, x, api.OK)
		checkOnly(t, r, map[byte]api.Reg{0: x, '1': x})
	}
}

// P17.1: text behind text that no register may have is ErrLong, and changes nothing; what just may be had is.
func TestSetLong(t *testing.T) {
	for _, x := range []struct {
		had, next api.Reg
		want      api.Errno
	}{
		{part(long(600)), part(long(400)), api.OK},
		{part(long(600)), part(long(401)), api.ErrLong},
		{part(long(600)), part(long(401), "a"), api.ErrLong},
		{part("a", long(1000)), part("b"), api.ErrLong},
		{part("a", long(1000)), part("", "b"), api.OK},
		{part(long(1000), ""), part(long(1000), "b"), api.OK},
		{whole(long(600)), part(long(401)), api.OK},
		{part(long(600)), whole(long(401)), api.OK},
		{part(many(2000)...), part("a"), api.OK}, // both are 2000 lines, as two are one
		{part(many(2000)...), part("a", "b"), api.ErrLong},
		{part("a"), part(many(2000)...), api.OK},
		{part("a", "b"), part(many(2000)...), api.ErrLong},
		{part(many(1000)...), part(many(1001)...), api.OK},
		{part(many(1001)...), part(many(1001)...), api.ErrLong},
		{whole(many(1999)...), whole("a"), api.OK},
		{whole(many(2000)...), whole("a"), api.ErrLong},
		{whole(many(2000)...), part("a"), api.ErrLong},
		{part(many(2000)...), whole("a"), api.ErrLong},
		{part("a"), whole(many(2000)...), api.ErrLong},
		{part("a"), whole(many(1999)...), api.OK},
	} {
		for letter := byte('a'); letter <= 'z'; letter++ {
			r := New()
			checkSet(t, r, letter, x.had, api.OK)
			checkSet(t, r, 0, part("unnamed"), api.OK)
			checkSet(t, r, letter-32, x.next, x.want)
			if x.want == api.OK {
				checkHas(t, r, letter, Join(x.had, x.next))
				checkHas(t, r, 0, x.next)
			} else {
				checkHas(t, r, letter, x.had)
				checkHas(t, r, 0, part("unnamed"))
			}
			checkSet(t, r, letter, x.next, api.OK) // A small letter asks for nothing that it had.
			checkHas(t, r, letter, x.next)
		}
	}
}

// P17.1: text grows behind text till no register may have it.
func TestSetGrows(t *testing.T) {
	r, want := New(), part("xx")
	checkSet(t, r, 'q', want, api.OK)
	for n := range 1100 {
		if n < 998 {
			want = part(long(n + 3))
			checkSet(t, r, 'Q', part("x"), api.OK)
		} else {
			checkSet(t, r, 'Q', part("x"), api.ErrLong)
		}
		checkHas(t, r, 'q', want)
	}
	r = New()
	for n := range 2100 {
		if n < 2000 {
			checkSet(t, r, 'Q', whole(""), api.OK)
		} else {
			checkSet(t, r, 'Q', whole(""), api.ErrLong)
		}
	}
	checkHas(t, r, 'q', whole(make([]string, 2000)...))
}

// P17.2: more than there are numbered registers; the named ones stay.
func TestPush(t *testing.T) {
	r := New()
	checkSet(t, r, 'a', part("named"), api.OK)
	has := map[byte]api.Reg{'a': part("named")}
	var pushed []api.Reg
	for n := range 25 {
		x := api.Reg{Lines: []string{"p", string(rune('a' + n))}, Whole: n%3 == 0}
		checkPush(t, r, x, api.OK)
		pushed = append([]api.Reg{x}, pushed...)
		for i := range min(len(pushed), 9) {
			has['1'+byte(i)] = pushed[i]
		}
		has[0] = x
		checkOnly(t, r, has)
	}
	checkSet(t, r, 0, part("u"), api.OK) // The unnamed one is not the first numbered one.
	has[0] = part("u")
	checkOnly(t, r, has)
}

// P17.3
func TestJoin(t *testing.T) {
	checkJoin(t, part("x"), part("y"), part("xy"))
	checkJoin(t, part("x"), part("y", "z"), part("xy", "z"))
	checkJoin(t, part("w", "x"), part("y"), part("w", "xy"))
	checkJoin(t, part("v", "w", "x"), part("y", "z", "a"), part("v", "w", "xy", "z", "a"))
	checkJoin(t, part("w", ""), part("y", "z"), part("w", "y", "z"))
	checkJoin(t, part("w", "x"), part("", "z"), part("w", "x", "z"))
	checkJoin(t, part(""), part(""), part(""))
	checkJoin(t, whole("x"), whole("y"), whole("x", "y"))
	checkJoin(t, whole("x"), part("y"), whole("x", "y"))
	checkJoin(t, part("x"), whole("y"), whole("x", "y"))
	checkJoin(t, whole("w", "x"), part("y", "z"), whole("w", "x", "y", "z"))
	checkJoin(t, part("x"), none, part("x"))
	checkJoin(t, none, part("x", "y"), part("x", "y"))
	checkJoin(t, none, none, none)
	checkJoin(t, none, whole("x"), whole("x"))
	checkJoin(t, whole("x"), none, whole("x"))
	checkJoin(t, whole(), part("x"), whole("x"))
	checkJoin(t, part("x"), whole(), whole("x"))
	checkJoin(t, none, whole(), whole())
	checkJoin(t, whole(), none, whole())
	// text that no register may have
	checkJoin(t, part("a\n"), part("\nb", "\n"), part("a\n\nb", "\n"))
	checkJoin(t, whole("\n"), part("\n"), whole("\n", "\n"))
	checkJoin(t, part(long(1000)), part(long(1001)), part(long(2001)))
	checkJoin(t, part(many(2001)...), part(long(9)), part(append(many(2000), many(2001)[2000]+long(9))...))
	checkJoin(t, whole(many(2000)...), whole(many(2000)...), whole(append(many(2000), many(2000)...)...))
}

// P17.1 to P17.3, R1, R3: registers that are none, whatever else stands against it.
func TestNone(t *testing.T) {
	var zero Regs
	for _, r := range []*Regs{nil, {}, &zero, (*Regs)(nil).Clone(), zero.Clone()} {
		for range 2 { // They stay none.
			for b := range 256 {
				checkSet(t, r, byte(b), part("x"), api.ErrNil)
				checkSet(t, r, byte(b), none, api.ErrNil)
				checkGet(t, r, byte(b), none, api.ErrNil)
			}
			for _, x := range append(wrong(), right()...) {
				checkSet(t, r, 'a', x, api.ErrNil)
				checkSet(t, r, '!', x, api.ErrNil)
				checkPush(t, r, x, api.ErrNil)
			}
			if r.Clone() != nil {
				t.Error("a clone of none")
			}
		}
	}
}

// P17.3, P17.4: a clone has the same, and neither knows what is laid into the other one.
func TestClone(t *testing.T) {
	r, has := filled(t)
	c := r.Clone()
	if c == nil || c == r {
		t.Fatal(c)
	}
	checkOnly(t, c, has)
	for b := range 128 {
		r.Set(byte(b), part("of r"))
		r.Push(part("of r"))
		checkOnly(t, c, has)
	}
	d := c.Clone()
	for b := range 128 {
		d.Set(byte(b), whole("of d"))
		d.Push(whole("of d"))
	}
	checkOnly(t, c, has)
	checkHas(t, r, 'm', part("of r"))
	checkHas(t, r, '9', part("of r"))
	checkHas(t, d, '9', whole("of d"))
	empty := New().Clone()
	checkOnly(t, empty, nil)
	checkSet(t, empty, 'a', part("x"), api.OK)
	checkOnly(t, empty, map[byte]api.Reg{'a': part("x"), 0: part("x")})
}

// spoil makes all lines of text other ones, and those that might stand behind them.
func spoil(x api.Reg) {
	l := x.Lines[:cap(x.Lines)]
	for i := range l {
		l[i] = "spoilt"
	}
}

// roomy is a list with room behind it, in which other lines stand.
func roomy(l ...string) []string {
	return append(slices.Clone(l), "behind", "behind", "behind")[:len(l)]
}

// P17.4, R4: what is handed in is not kept, and stays what it was.
func TestHandedIn(t *testing.T) {
	r, has := New(), map[byte]api.Reg{}
	// lay lays text by a call into the register of a letter, which has what is wanted then.
	lay := func(by func(x api.Reg) api.Errno, letter byte, x, want api.Reg) {
		t.Helper()
		room := slices.Clone(x.Lines[:cap(x.Lines)])
		has[0] = api.Reg{Lines: slices.Clone(x.Lines), Whole: x.Whole}
		has[letter] = want
		if e := by(x); e != api.OK {
			t.Errorf("%s: %d", said(x), e)
		}
		if !slices.Equal(x.Lines[:cap(x.Lines)], room) {
			t.Errorf("%q is no more what it was: %q", room, x.Lines)
		}
		spoil(x)
		checkOnly(t, r, has)
	}
	set := func(letter byte) func(x api.Reg) api.Errno {
		return func(x api.Reg) api.Errno { return r.Set(letter, x) }
	}
	lay(set('a'), 'a', part(roomy("x", "y")...), part("x", "y"))
	lay(set('A'), 'a', part(roomy("z", "w")...), part("x", "yz", "w"))
	lay(set('A'), 'a', whole(roomy("v")...), whole("x", "yz", "w", "v"))
	lay(set('B'), 'b', part(roomy("first")...), part("first"))
	lay(set(0), 0, part(roomy("u")...), part("u"))
	lay(r.Push, '1', part(roomy("p")...), part("p"))
}

// P17.3, P17.4, R4: what is handed out is memory of its own, each time and from each register.
func TestHandedOut(t *testing.T) {
	r, has := New(), map[byte]api.Reg{}
	checkPush(t, r, part("p", "q"), api.OK)
	checkPush(t, r, part("s"), api.OK)
	checkSet(t, r, 'b', part("y"), api.OK)
	checkSet(t, r, 'B', part("w", "v"), api.OK)
	checkSet(t, r, 'a', whole("x", "z"), api.OK)
	has['1'], has['2'], has['b'] = part("s"), part("p", "q"), part("yw", "v")
	has['a'], has[0] = whole("x", "z"), whole("x", "z")
	c := r.Clone()
	for _, of := range []*Regs{r, c} {
		for letter := range has {
			x, _ := of.Get(letter)
			spoil(x)
			checkOnly(t, r, has)
			checkOnly(t, c, has)
		}
	}
}

// P17.3, R4: what is joined stays what it was, and shares nothing with the answer.
func TestJoinIsApart(t *testing.T) {
	for _, wholes := range []int{0, 1, 2, 3} {
		for _, sizes := range [][2]int{{0, 0}, {0, 2}, {2, 0}, {1, 1}, {2, 3}, {3, 1}, {1, 3}} {
			a := api.Reg{Lines: roomy(many(sizes[0])...), Whole: wholes&1 > 0}
			b := api.Reg{Lines: roomy(many(sizes[1])...), Whole: wholes&2 > 0}
			ownA, ownB := slices.Clone(a.Lines[:cap(a.Lines)]), slices.Clone(b.Lines[:cap(b.Lines)])
			spoil(Join(a, b))
			if !slices.Equal(a.Lines[:cap(a.Lines)], ownA) || !slices.Equal(b.Lines[:cap(b.Lines)], ownB) {
				t.Errorf("%q, %q: no more what they were: %q, %q", ownA, ownB, a.Lines, b.Lines)
			}
			x := Join(a, b)
			want := api.Reg{Lines: slices.Clone(x.Lines), Whole: x.Whole}
			spoil(a)
			spoil(b)
			if !same(x, want) {
				t.Errorf("%s goes with what it was joined of: %s", said(want), said(x))
			}
		}
	}
}
