package match

import (
	"math"

	"inkhorn/bre"
)

// node is a part of a pattern, with what is asked of it again and again.
type node struct {
	kind     bre.Kind
	id       int       // which one of the pattern's it is
	takes    [256]bool // of a Byte, an Any and a Set: the bytes that it may be
	n        int       // of a Ref and a Group: which group
	min, max int       // of a Times; a max of -1 is no bound
	kids     []*node
	groups   []int // which groups are in it, with itself
	idle     bool  // it has one way from each place, and that is empty, and takes no try
	closed   bool  // it may be empty anywhere, and ways of it, one behind the other, lead nowhere where not one of them does
	more     turns // of a Times: those that need not be
}

// turns are repetitions of a node, from none on; most is -1, where there is no bound.
type turns struct {
	of   *node
	most int
}

// lay makes a pattern's nodes.
func lay(tree []bre.Node) []*node {
	count := 0
	var row func(tree []bre.Node) []*node
	row = func(tree []bre.Node) []*node {
		all := []*node{}
		for _, t := range tree {
			n := &node{kind: t.Kind, id: count, takes: taken(t), n: t.N, min: t.Min, max: t.Max}
			count++
			n.kids = row(t.Kids)
			n.sumUp()
			all = append(all, n)
		}
		return all
	}
	return row(tree)
}

// taken is the bytes that a node may be, if it is a Byte, an Any, or a Set.
func taken(t bre.Node) (set [256]bool) {
	switch t.Kind {
	case bre.Byte:
		set[t.Byte] = true
	case bre.Any:
		for b := range set {
			set[b] = true
		}
	case bre.Set:
		set = t.Set
	}
	return set
}

// sumUp says of a node what follows from its kids.
func (n *node) sumUp() {
	n.idle = n.kind == bre.Group || n.kind == bre.Times
	for _, kid := range n.kids {
		n.groups = append(n.groups, kid.groups...)
		n.idle = n.idle && kid.idle
	}
	switch n.kind {
	case bre.Group:
		n.groups = append(n.groups, n.n)
		n.closed = n.idle || len(n.kids) == 1 && n.kids[0].closed
	case bre.Times:
		n.sumUpTurns()
		n.closed = n.idle || n.min == 0 && n.max == -1 || n.kids[0].closed
	}
}

// sumUpTurns says of a Times what follows from what it repeats.
func (n *node) sumUpTurns() {
	n.idle = n.idle || n.max == 0
	if n.idle {
		// All its turns are empty, and alike: the last one stands for them. (Nested ones may be too many to go through.)
		n.min = min(n.min, 1)
		n.max = n.min
	}
	n.more = turns{of: n.kids[0], most: n.max - n.min}
	if n.max == -1 {
		n.more.most = -1
	}
	n.more = n.more.plain()
}

// plain is turns that lead to the same places, but of a node as far inside as may be: turns of turns are turns.
func (t turns) plain() turns {
	for {
		in := t.of
		switch {
		case in.kind == bre.Group && len(in.kids) == 1:
		case in.kind == bre.Times && in.min <= 1 && in.max != 0:
			t.most = times(t.most, in.max)
		default:
			return t
		}
		t.of = in.kids[0]
	}
}

// times multiplies bounds; what is more than any text's length is no bound.
func times(a, b int) int {
	if a == 0 {
		return 0
	}
	if a == -1 || b == -1 || a > math.MaxInt/b {
		return -1
	}
	return a * b
}

// single tells whether a node is one byte.
func (n *node) single() bool {
	return n.kind == bre.Byte || n.kind == bre.Any || n.kind == bre.Set
}
