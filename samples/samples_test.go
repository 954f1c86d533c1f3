package samples

import (
	"slices"
	"testing"
)

func TestTexts(t *testing.T) {
	if all := Texts("ab", 2); !slices.Equal(all, []string{"", "a", "b", "aa", "ab", "ba", "bb"}) {
		t.Errorf("%q", all)
	}
	if all := Texts("ab", 0); !slices.Equal(all, []string{""}) {
		t.Errorf("%q", all)
	}
	if all := Texts("\xc3\xa9\n", 6); len(all) != 1+3+9+27+81+243+729 { // bytes, not runes
		t.Error(len(all))
	}
}

func TestLists(t *testing.T) {
	all := Lists([]string{"", "a"}, 2)
	want := [][]string{nil, {""}, {"a"}, {"", ""}, {"", "a"}, {"a", ""}, {"a", "a"}}
	if !slices.EqualFunc(all, want, slices.Equal) {
		t.Errorf("%q", all)
	}
	all[1] = append(all[1], "x")
	if !slices.EqualFunc(all[2:], want[2:], slices.Equal) {
		t.Errorf("%q", all)
	}
}
