package regs

import (
	"strings"
	"testing"

	"inkhorn/api"
	"inkhorn/samples"
)

// plain is registers by the document's words: of each byte, what was laid there, nil where nothing was.
type plain [256]*api.Reg

// plainMay tells by the document's words whether a register may have text.
func plainMay(x api.Reg) bool {
	if len(x.Lines) < 1 || len(x.Lines) > 2000 {
		return false
	}
	for _, line := range x.Lines {
		if len(line) > 1000 || strings.Contains(line, "\n") {
			return false
		}
	}
	return true
}

// plainJoin is text behind text by the document's words, gone through line by line.
func plainJoin(a, b api.Reg) api.Reg {
	joined := api.Reg{}
	if a.Whole || b.Whole {
		joined.Whole = true
	}
	for _, line := range a.Lines {
		joined.Lines = append(joined.Lines, line)
	}
	for i, line := range b.Lines {
		if n := len(joined.Lines); i == 0 && n > 0 && !joined.Whole {
			joined.Lines[n-1] += line
		} else {
			joined.Lines = append(joined.Lines, line)
		}
	}
	return joined
}

// set is the registers behind a Set, and what it answers.
func (p plain) set(letter byte, x api.Reg) (plain, api.Errno) {
	if !plainMay(x) {
		return p, api.ErrArg
	}
	const small, great = "abcdefghijklmnopqrstuvwxyz", "ABCDEFGHIJKLMNOPQRSTUVWXYZ"
	next := p
	next[0] = &x
	if letter == 0 {
		return next, api.OK
	}
	if strings.IndexByte(small, letter) >= 0 {
		next[letter] = &x
		return next, api.OK
	}
	i := strings.IndexByte(great, letter)
	if i < 0 {
		return p, api.ErrReg
	}
	had := api.Reg{}
	if p[small[i]] != nil {
		had = *p[small[i]]
	}
	both := plainJoin(had, x)
	if !plainMay(both) {
		return p, api.ErrLong
	}
	next[small[i]] = &both
	return next, api.OK
}

// push is the registers behind a Push, and what it answers.
func (p plain) push(x api.Reg) (plain, api.Errno) {
	if !plainMay(x) {
		return p, api.ErrArg
	}
	next := p
	for n := 9; n >= 2; n-- {
		if had := p['0'+n-1]; had != nil {
			next['0'+n] = had
		}
	}
	next['1'], next[0] = &x, &x
	return next, api.OK
}

// checkPlain holds all registers against these words.
func checkPlain(t *testing.T, r *Regs, p plain) {
	t.Helper()
	has := map[byte]api.Reg{}
	for letter, x := range p {
		if x != nil {
			has[byte(letter)] = *x
		}
	}
	checkOnly(t, r, has)
}

// act is a Set of a letter, or a Push, if it is a #.
type act struct {
	letter byte
	x      api.Reg
}

// do does an act with registers and by these words, and holds both answers against each other.
func (a act) do(t *testing.T, r *Regs, p plain) plain {
	t.Helper()
	if a.letter == '#' {
		next, e := p.push(a.x)
		checkPush(t, r, a.x, e)
		return next
	}
	next, e := p.set(a.letter, a.x)
	checkSet(t, r, a.letter, a.x, e)
	return next
}

// P17.3: all short texts behind all short texts, those that may not be among them.
func TestAllJoins(t *testing.T) {
	var all []api.Reg
	for _, l := range samples.Lists([]string{"", "a", "b", "\n"}, 3) {
		all = append(all, part(l...), whole(l...))
	}
	for _, a := range all {
		if Check(a) != plainMay(a) {
			t.Errorf("Check of %s: %v", said(a), Check(a))
		}
		for _, b := range all {
			checkJoin(t, a, b, plainJoin(a, b))
		}
	}
}

// P17.1, P17.2, P17.4: all short rows of acts.
func TestAllRows(t *testing.T) {
	acts := []act{
		{'a', part("x", "y")}, {'A', part("z")}, {'A', whole("w")}, {'b', whole("v")}, {'B', part("u", "")},
		{0, part("t")}, {'#', part("p")}, {'#', whole("q")}, {'2', part("s")}, {'a', part()}, {'#', part("\n")},
	}
	var goOn func(r *Regs, p plain, more int)
	goOn = func(r *Regs, p plain, more int) {
		if more == 0 {
			return
		}
		for _, a := range acts {
			next := r.Clone()
			behind := a.do(t, next, p)
			checkPlain(t, next, behind)
			goOn(next, behind, more-1)
		}
		checkPlain(t, r, p) // What was done with the clones is nothing to it.
	}
	goOn(New(), plain{}, 4)
}

// draw is a row of numbers that looks like one by chance.
type draw uint64

func (d *draw) below(n int) int {
	*d = *d*6364136223846793005 + 1442695040888963407
	return int(uint64(*d)>>33) % n
}

// text is text, most of which a register may have: lines of all lengths, but more short ones.
func (d *draw) text() api.Reg {
	x := api.Reg{Whole: d.below(3) == 0}
	size := d.below(5)
	if d.below(10) == 0 {
		size = d.below(1500)
	}
	for range size {
		line := long(d.below(4))
		if d.below(10) == 0 {
			line = long(d.below(400))
		}
		if d.below(2000) == 0 {
			line += "\n"
		}
		x.Lines = append(x.Lines, line+string(rune('0'+d.below(10))))
	}
	return x
}

// act is one with any byte, more often with one of a few letters.
func (d *draw) act() act {
	letters := "aAAABbBzZ##\x00" + string(rune(d.below(128)))
	return act{letters[d.below(len(letters))], d.text()}
}

// P17.1 to P17.4: long drawn rows of acts, and clones that go ways of their own.
func TestDrawn(t *testing.T) {
	d := draw(17)
	for range 60 {
		all, words := []*Regs{New()}, []plain{{}}
		for range 120 {
			i := d.below(len(all))
			if len(all) < 4 && d.below(20) == 0 {
				all, words = append(all, all[i].Clone()), append(words, words[i])
			}
			words[i] = d.act().do(t, all[i], words[i])
			checkPlain(t, all[i], words[i])
		}
		for i := range all {
			checkPlain(t, all[i], words[i])
		}
	}
}
