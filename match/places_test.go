package match

import (
	"slices"
	"testing"
)

// listed tells a set's places, and asks for them in other ways.
func listed(t *testing.T, p places) []int {
	t.Helper()
	up := slices.Collect(p.up())
	down := slices.Collect(p.down())
	slices.Reverse(down)
	if !slices.Equal(up, down) || !slices.IsSorted(up) || p.none() != (len(up) == 0) {
		t.Fatalf("%v %v %v", up, down, p.none())
	}
	for at := range 400 {
		if p.has(at) != slices.Contains(up, at) {
			t.Fatalf("%v: %d", up, at)
		}
	}
	return up
}

// merged is some numbers, sorted, each one once.
func merged(all ...int) []int {
	slices.Sort(all)
	return slices.Compact(all)
}

func TestPlacesEmpty(t *testing.T) {
	var p places
	if len(listed(t, p)) != 0 || p.meets(p) || p.meets(only(0)) || only(0).meets(p) {
		t.Error("nothing is something")
	}
	p.join(places{})
	p.less(only(5))
	if len(listed(t, p)) != 0 || len(listed(t, p.copied())) != 0 {
		t.Error("nothing is something")
	}
}

// One place, a stretch, and two sets, about the ends of words.
func TestPlacesEdges(t *testing.T) {
	near := []int{0, 1, 31, 62, 63, 64, 65, 127, 128, 129, 191, 192, 300}
	for _, a := range near {
		if got := listed(t, only(a)); !slices.Equal(got, []int{a}) {
			t.Fatal(a, got)
		}
		for _, b := range near {
			var p places
			p.add(a)
			p.add(b)
			if got := listed(t, p); !slices.Equal(got, merged(a, b)) {
				t.Fatal(a, b, got)
			}
			checkPair(t, a, b)
			if a <= b {
				checkFill(t, a, b)
			}
		}
	}
}

// checkPair holds two sets of one place each against each other.
func checkPair(t *testing.T, a, b int) {
	t.Helper()
	p := only(a)
	q := p.copied()
	q.join(only(b))
	if got := listed(t, q); !slices.Equal(got, merged(a, b)) || !slices.Equal(listed(t, p), []int{a}) {
		t.Fatal(a, b, got)
	}
	if p.meets(only(b)) != (a == b) || !q.meets(p) || !p.meets(q) || !q.meets(only(b)) {
		t.Fatal(a, b)
	}
	q.less(p)
	if got := listed(t, q); a == b && len(got) != 0 || a != b && !slices.Equal(got, []int{b}) {
		t.Fatal(a, b, got)
	}
}

// checkFill fills a stretch of a set that has other places, too.
func checkFill(t *testing.T, from, to int) {
	t.Helper()
	for _, other := range []int{0, 64, 140, 310} {
		p := only(other)
		p.fill(from, to)
		want := []int{other}
		for at := from; at <= to; at++ {
			want = append(want, at)
		}
		if got := listed(t, p); !slices.Equal(got, merged(want...)) {
			t.Fatal(from, to, other, got)
		}
	}
}

// What is ended early is ended.
func TestPlacesEarly(t *testing.T) {
	var p places
	p.fill(60, 70)
	for at := range p.up() {
		if at != 60 {
			t.Fatal(at)
		}
		break
	}
	for at := range p.down() {
		if at != 70 {
			t.Fatal(at)
		}
		break
	}
}
