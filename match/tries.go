package match

import (
	"cmp"
	"slices"
	"strings"

	"inkhorn/api"
	"inkhorn/bre"
)

// way is what was gone through so far: up to which place, the stretches in the row that is gone through, and those of groups.
type way struct {
	at     int
	row    *stretch
	groups *[10][2]int
}

// stretch is a node's stretch in a row, or a turn's in a Times, behind the one ahead. Nobody changes it: ways share what they have alike.
type stretch struct {
	ahead  *stretch
	to     int
	inside *stretch // a Group's row, a Times' turns, or a turn's row, from the last one on
}

// search goes through all ways of a pattern with references. What is left to go through is put aside, so that long texts make no deep calls.
type search struct {
	text  string
	fuel  int
	spent bool // more fuel was asked for than there is
	left  []func()
	best  *way
}

// seek tells where a pattern with references matches in a text, from a place on.
func seek(row []*node, text string, from, fuel int) (spans [10][2]int, ok bool, e api.Errno) {
	if fuel < 0 {
		return spans, false, api.ErrFuel
	}
	s := &search{text: text, fuel: fuel}
	for at := from; 0 <= at && at <= len(text); at++ {
		s.from(row, at)
		switch {
		case s.spent:
			return spans, false, api.ErrFuel
		case s.best != nil:
			spans = *s.best.groups
			spans[0] = [2]int{at, s.best.at}
			return spans, true, api.OK
		}
	}
	return spans, false, api.OK
}

// from goes through all ways from a place on.
func (s *search) from(row []*node, at int) {
	groups := noSpans()
	s.later(func() { s.row(row, way{at: at, groups: &groups}, s.hold) })
	for len(s.left) > 0 && !s.spent {
		last := len(s.left) - 1
		next := s.left[last]
		s.left = s.left[:last]
		next()
	}
}

// later puts aside what is to be gone through.
func (s *search) later(next func()) {
	s.left = append(s.left, next)
}

// hold holds a way of the pattern against the best one so far.
func (s *search) hold(w way) {
	if s.best == nil || w.at > s.best.at || w.at == s.best.at && compare(w.row, s.best.row) > 0 {
		s.best = &w
	}
}

// row goes through a row, and then on.
func (s *search) row(row []*node, w way, then func(way)) {
	if len(row) == 0 {
		then(w)
		return
	}
	n, rest := row[0], row[1:]
	on := func(w way) { s.row(rest, w, then) }
	switch n.kind {
	case bre.Group:
		s.group(n, w, on)
	case bre.Times:
		s.turns(n, 0, nil, w, on)
	default:
		if length, ok := s.try(n, w); ok {
			w.at += length
			w.row = &stretch{ahead: w.row, to: w.at}
			on(w)
		}
	}
}

// group goes through a group, and then on.
func (s *search) group(n *node, w way, then func(way)) {
	s.row(n.kids, way{at: w.at, groups: w.groups}, func(in way) {
		groups := *in.groups
		groups[n.n] = [2]int{w.at, in.at}
		then(way{at: in.at, row: &stretch{ahead: w.row, to: in.at, inside: in.row}, groups: &groups})
	})
}

// turns goes through a Times of which k turns are done, and then on.
func (s *search) turns(n *node, k int, done *stretch, w way, then func(way)) {
	if k >= n.min {
		s.later(func() {
			then(way{at: w.at, row: &stretch{ahead: w.row, to: w.at, inside: done}, groups: w.groups})
		})
	}
	if n.max != -1 && k >= n.max {
		return
	}
	s.later(func() {
		s.row(n.kids, way{at: w.at, groups: without(w.groups, n.groups)}, func(in way) {
			if k >= n.min && in.at == w.at {
				return
			}
			s.turns(n, k+1, &stretch{ahead: done, to: in.at, inside: in.row}, way{at: in.at, row: w.row, groups: in.groups}, then)
		})
	})
}

// without is the groups' stretches, of which some have none.
func without(groups *[10][2]int, which []int) *[10][2]int {
	left := *groups
	for _, n := range which {
		left[n] = [2]int{-1, -1}
	}
	if left == *groups {
		return groups
	}
	return &left
}

// try tells how long the stretch of a node is where a way has come to, if it has one there.
func (s *search) try(n *node, w way) (length int, ok bool) {
	if s.fuel == 0 {
		s.spent = true
		return 0, false
	}
	s.fuel--
	switch n.kind {
	case bre.Begin:
		return 0, w.at == 0
	case bre.End:
		return 0, w.at == len(s.text)
	case bre.Ref:
		had := w.groups[n.n]
		if had[0] < 0 {
			return 0, false
		}
		text := s.text[had[0]:had[1]]
		return len(text), strings.HasPrefix(s.text[w.at:], text)
	}
	return 1, w.at < len(s.text) && n.takes[s.text[w.at]]
}

// compare tells which of two rows' stretches, or turns, are the better ones, if they begin and end alike: 1: the first ones, -1: the others.
func compare(a, b *stretch) int {
	if a == b {
		return 0
	}
	x, y := inOrder(a), inOrder(b)
	least := min(len(x), len(y)) // Both are as many, where none is longer than the other.
	for i := range least {
		if c := cmp.Compare(x[i].to, y[i].to); c != 0 {
			return c
		}
	}
	for i := range least {
		if c := compare(x[i].inside, y[i].inside); c != 0 {
			return c
		}
	}
	return 0
}

// inOrder is stretches from the first one on.
func inOrder(last *stretch) []*stretch {
	var all []*stretch
	for ; last != nil; last = last.ahead {
		all = append(all, last)
	}
	slices.Reverse(all)
	return all
}
