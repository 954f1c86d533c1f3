package match

import "math"

// walk is a Times whose turns lead from a place up to another one.
type walk struct {
	scan     *scan
	turn     *node // what is repeated
	from, to int
	more     int      // how many turns there may be behind those that have to be
	fewest   []int    // by how far a place is behind from: how many turns that are not empty lead to to
	good     []places // by how many turns that have to be are left: from where these, and then as many others as may be, lead to to
}

// far is more turns than there are.
const far = math.MaxInt

// lastTurn is the stretch of the last turn in a Times' best way from a place up to another one, if it has a turn: from the first one on each
// is the longest one with which the others lead there.
func lastTurn(n *node, text string, from, to int) (begin, end int, ok bool) {
	w := newWalk(n, text, from, to)
	begin, end = from, from
	for k := n.min; k > 0; k-- {
		begin, end = end, w.longest(end, w.good[k-1].has)
	}
	for more := w.more; end < to; more-- {
		begin, end = end, w.longest(end, func(at int) bool { return at > end && w.fewest[at-from] < more })
	}
	return begin, end, n.min > 0 || from < to
}

// newWalk finds out from where what leads to the last place.
func newWalk(n *node, text string, from, to int) *walk {
	w := &walk{scan: newScan(text, to), turn: n.kids[0], from: from, to: to, more: n.max - n.min}
	if n.max == -1 {
		w.more = far - 1
	}
	w.fewest = make([]int, to-from+1)
	w.good = make([]places, n.min+1)
	for k := range w.good {
		w.good[k].cover(from/64, to/64+1)
	}
	for at := to; at >= from; at-- {
		w.look(at)
	}
	return w
}

// look finds out what leads from a place to the last one. It was found out of all places behind it.
func (w *walk) look(at int) {
	ends := w.scan.behind(w.turn, only(at))
	if at < w.to {
		w.fewest[at-w.from] = w.least(at, ends)
	}
	if w.fewest[at-w.from] <= w.more {
		w.good[0].add(at)
	}
	for k := 1; k < len(w.good); k++ {
		if ends.meets(w.good[k-1]) {
			w.good[k].add(at)
		}
	}
}

// least is how many turns that are not empty lead from a place to the last one, if the first one of them has one of some ends.
func (w *walk) least(at int, ends places) int {
	least := far
	for end := range ends.down() {
		if end == at || least == 1 {
			break // It will not be fewer.
		}
		if turns := w.fewest[end-w.from]; turns < far {
			least = min(least, turns+1)
		}
	}
	return least
}

// longest is the greatest end of a turn from a place on that a test holds good.
func (w *walk) longest(from int, test func(at int) bool) int {
	for end := range w.scan.behind(w.turn, only(from)).down() {
		if test(end) {
			return end
		}
	}
	return w.to // Not come to: walks are gone where there is a way.
}
