package match

import (
	"slices"

	"inkhorn/bre"
)

// step is what is gone through from a place on: it tells whether that leads to where the scan's text ends.
type step func(at int) bool

// find tells where a pattern without references matches in a text, from a place on.
func find(row []*node, text string, from int) (spans [10][2]int, ok bool) {
	if from < 0 {
		return spans, false
	}
	s := newScan(text, len(text))
	best := -1
	through := s.row(row, func(at int) bool {
		best = max(best, at)
		return at == len(text)
	})
	for at := from; at <= len(text); at++ {
		through(at)
		if best >= 0 {
			l := layer{text: text, spans: noSpans()}
			l.spans[0] = [2]int{at, best}
			l.row(row, at, best)
			return l.spans, true
		}
	}
	return spans, false
}

// row is to go through a row, and then on.
func (s *scan) row(row []*node, on step) step {
	for _, n := range slices.Backward(row) {
		on = s.node(n, on)
	}
	return on
}

// node is to go through a node, and then on.
func (s *scan) node(n *node, on step) step {
	switch n.kind {
	case bre.Begin:
		return func(at int) bool { return at == 0 && on(at) }
	case bre.End:
		return func(at int) bool { return at == s.end && on(at) }
	case bre.Group:
		return s.row(n.kids, on)
	case bre.Times:
		return s.times(n, on)
	}
	return func(at int) bool { return s.takes(n, at) && on(at+1) }
}

// times is to go through a Times, and then on. Where that led nowhere once it does so ever after, and is not gone on again.
func (s *scan) times(n *node, on step) step {
	var vain places
	return func(at int) bool {
		ends := s.fresh(n, at, vain)
		for end := range ends.down() {
			if on(end) {
				return true
			}
		}
		vain.join(ends)
		return false
	}
}

// fresh is the ends of a Times from a place on, but for some. If turns have no bound, those that lead on from one of these are of these, too.
func (s *scan) fresh(n *node, at int, but places) places {
	ends, known := s.forced(n, only(at)), places{}
	if n.more.most == -1 {
		ends.less(but)
		known = but
	}
	ends = s.spread(n.more, ends, known)
	ends.less(but)
	return ends
}

// layer lays down the groups' stretches of the best way of a pattern without references.
type layer struct {
	text  string
	spans [10][2]int
}

// row lays down those in a row, by its best way from a place up to another one.
func (l *layer) row(row []*node, from, to int) {
	s := newScan(l.text, to)
	rests := make([]step, len(row)+1)
	rests[len(row)] = func(at int) bool { return at == to }
	for i, n := range slices.Backward(row) {
		rests[i] = s.node(n, rests[i+1])
	}
	for i, n := range row[:grouped(row)] {
		end := s.longest(n, from, rests[i+1])
		l.node(n, from, end)
		from = end
	}
}

// grouped is how many nodes of a row stand up to the last one with groups, with it.
func grouped(row []*node) int {
	count := len(row)
	for count > 0 && len(row[count-1].groups) == 0 {
		count--
	}
	return count
}

// longest is the end of a node's longest stretch with which the rest of its row leads to the end of the scan's text.
func (s *scan) longest(n *node, from int, rest step) int {
	for end := range s.behind(n, only(from)).down() {
		if rest(end) {
			return end
		}
	}
	return from // Not come to: rows are laid down where they have a way.
}

// node lays down those in a node, by its best way from a place up to another one.
func (l *layer) node(n *node, from, to int) {
	switch {
	case len(n.groups) == 0:
	case n.kind == bre.Group:
		l.spans[n.n] = [2]int{from, to}
		l.row(n.kids, from, to)
	case n.kind == bre.Times:
		// When a turn begins the groups in it have no stretch: the last turn is the one that says what they have.
		if begin, end, ok := lastTurn(n, l.text, from, to); ok {
			l.node(n.kids[0], begin, end)
		}
	}
}
