package match

import "inkhorn/bre"

// scan is a text, up to a place, and what was found out about it. It is for patterns without references: where a way of one of their nodes
// ends hangs on where it begins alone.
type scan struct {
	text string // up to where ways may go
	end  int    // where the text ends, that may go on behind that
	ends map[asked]places
	runs []run // by nodes' ids: the one that was found last
}

// run is from where to where each byte is one that a node takes; there the next one is not.
type run struct {
	from, to int
}

// asked is a question: where do that many ways of a node, one behind the other, end, of which the first one begins there?
type asked struct {
	id, from, count int
}

// newScan is a scan of a text, up to a place.
func newScan(text string, to int) *scan {
	return &scan{text: text[:to], end: len(text), ends: map[asked]places{}}
}

// takes tells whether the byte at a place is one of those that a node may be.
func (s *scan) takes(n *node, at int) bool {
	return at < len(s.text) && n.takes[s.text[at]]
}

// behind is where ways of a node end that begin at places of a set.
func (s *scan) behind(n *node, set places) places {
	switch n.kind {
	case bre.Begin:
		return fixed(set, 0)
	case bre.End:
		return fixed(set, s.end)
	case bre.Group:
		for _, kid := range n.kids {
			set = s.behind(kid, set)
		}
		return set
	case bre.Times:
		return s.spread(n.more, s.forced(n, set), places{})
	}
	return s.moved(n, set, 1)
}

// fixed is a place, if it is in the set.
func fixed(set places, at int) places {
	if set.has(at) {
		return only(at)
	}
	return places{}
}

// forced is where the turns end that a Times has to have.
func (s *scan) forced(n *node, set places) places {
	kid := n.kids[0]
	switch {
	case n.min == 0:
		return set
	case kid.single():
		return s.moved(kid, set, n.min)
	case n.min == 1 || kid.closed:
		return s.behind(kid, set)
	}
	var all places
	for at := range set.up() {
		all.join(s.exactly(kid, at, n.min))
	}
	return all
}

// exactly is where that many ways of a node end, one behind the other. The ends of half of them are asked for, as others may ask for these, too.
func (s *scan) exactly(n *node, from, count int) places {
	ask := asked{id: n.id, from: from, count: count}
	if found, ok := s.ends[ask]; ok {
		return found
	}
	var found places
	if count == 1 {
		found = s.behind(n, only(from))
	} else {
		half := count / 2
		for at := range s.exactly(n, from, half).up() {
			found.join(s.exactly(n, at, count-half))
		}
	}
	s.ends[ask] = found
	return found
}

// spread is where turns that need not be end, with where they begin; what is known already, with all that follows from it, may be left out.
func (s *scan) spread(t turns, set, known places) places {
	switch {
	case t.most == 0:
		return set
	case t.of.single():
		return s.filled(t, set)
	case t.of.closed:
		return s.behind(t.of, set)
	}
	all := set.copied()
	front := set
	for k := t.most; k != 0 && !front.none(); k-- {
		var next places
		for at := range front.up() {
			next.join(s.exactly(t.of, at, 1))
		}
		next.less(all)
		next.less(known)
		all.join(next)
		front = next
	}
	return all
}

// moved is the places that are count bytes behind those of a set, each of which the node takes.
func (s *scan) moved(n *node, set places, count int) places {
	var all places
	upTo := 0 // all bytes from the place on up to there are taken
	for at := range set.up() {
		upTo = max(upTo, at)
		for upTo-at < count && s.takes(n, upTo) {
			upTo++
		}
		if upTo-at >= count {
			all.add(at + count)
		}
	}
	return all
}

// filled is the places of a set, and those behind them, up to as many bytes as may be, each of which the node takes.
func (s *scan) filled(t turns, set places) places {
	var all places
	upTo := 0 // all bytes from the place on up to there are taken, and the places told
	for at := range set.up() {
		upTo = max(upTo, at)
		from := upTo
		if t.most == -1 {
			upTo = s.runsTo(t.of, from)
		}
		for upTo-at < t.most && s.takes(t.of, upTo) {
			upTo++
		}
		all.fill(from, upTo)
	}
	return all
}

// runsTo is up to where each byte from a place on is one that a node takes.
func (s *scan) runsTo(n *node, from int) int {
	for len(s.runs) <= n.id {
		s.runs = append(s.runs, run{from: -1, to: -1})
	}
	last := s.runs[n.id]
	if last.from <= from && from <= last.to {
		return last.to
	}
	to := from
	for to != last.from && s.takes(n, to) {
		to++
	}
	if to == last.from {
		to = last.to
	}
	s.runs[n.id] = run{from: from, to: to}
	return to
}
