package lines

import (
	"slices"
	"strings"
	"testing"

	"inkhorn/api"
	"inkhorn/samples"
)

// slowSplit says byte by byte what the document says of a text's lines.
func slowSplit(text string) (l []string, ended bool) {
	line := ""
	for i := range len(text) {
		if text[i] == 10 {
			l, line = append(l, line), ""
		} else {
			line += text[i : i+1]
		}
	}
	if line != "" {
		return append(l, line), false
	}
	return l, true
}

// P1.1
func TestSplit(t *testing.T) {
	long := strings.Repeat("x", 5000)
	for _, x := range []struct {
		text  string
		l     []string
		ended bool
	}{
		{"", nil, true},
		{"a\n\nb", []string{"a", "", "b"}, false},
		{"\n", []string{""}, true},
		{"a\r\n", []string{"a\r"}, true},
		{"a", []string{"a"}, false},
		{"a\n", []string{"a"}, true},
		{"one\ntwo\n", []string{"one", "two"}, true},
		{"one\ntwo", []string{"one", "two"}, false},
		{"\n\n", []string{"", ""}, true},
		{"\na", []string{"", "a"}, false},
		{"\r", []string{"\r"}, false},
		{"\x00\xff\n\xc3\n\xe2\x80\xa8\x85\v\f", []string{"\x00\xff", "\xc3", "\xe2\x80\xa8\x85\v\f"}, false},
		{" \n\t\n", []string{" ", "\t"}, true},
		{long + "\n" + long, []string{long, long}, false},
		{strings.Repeat("\n", 3000), make([]string, 3000), true},
	} {
		l, ended := Split(x.text)
		if !slices.Equal(l, x.l) || ended != x.ended {
			t.Errorf("Split(%.40q): %.40q, %v", x.text, l, ended)
		}
	}
}

// P1.1
func TestSplitOfAllShortTexts(t *testing.T) {
	for _, text := range samples.Texts("a\n\r\x00", 6) {
		l, ended := Split(text)
		if wantL, want := slowSplit(text); !slices.Equal(l, wantL) || ended != want {
			t.Errorf("Split(%q): %q, %v", text, l, ended)
		}
	}
}

// P1.1
func TestJoin(t *testing.T) {
	long := strings.Repeat("x", 5000)
	for _, x := range []struct {
		l    []string
		want string
	}{
		{nil, ""},
		{[]string{}, ""},
		{[]string{""}, "\n"},
		{[]string{"a"}, "a\n"},
		{[]string{"a", "", "b"}, "a\n\nb\n"},
		{[]string{"a\r"}, "a\r\n"},
		{[]string{"a\nb", "\n"}, "a\nb\n\n\n"},
		{[]string{"\xff\x00", "\xe2\x80"}, "\xff\x00\n\xe2\x80\n"},
		{[]string{long}, long + "\n"},
		{make([]string, 3000), strings.Repeat("\n", 3000)},
	} {
		if s := Join(x.l); s != x.want {
			t.Errorf("Join(%.40q): %.40q", x.l, s)
		}
	}
}

// P1.2
func TestCheck(t *testing.T) {
	line := func(n int) string { return strings.Repeat("x", n) }
	full := make([]string, api.MaxLines)
	for i := range full {
		full[i] = line(api.MaxBytes)
	}
	for i, x := range []struct {
		l    []string
		want api.Errno
	}{
		{nil, api.OK},
		{[]string{}, api.OK},
		{[]string{"", "a", "\r", "\x00\xff\v\f\x85"}, api.OK},
		{[]string{"\n"}, api.ErrArg},
		{[]string{"a\n"}, api.ErrArg},
		{[]string{"\na"}, api.ErrArg},
		{[]string{"a", "b\nc", "d"}, api.ErrArg},
		{[]string{"a", "b", "c\n"}, api.ErrArg},
		{make([]string, 2000), api.OK},
		{make([]string, 2001), api.ErrLong},
		{[]string{line(1000)}, api.OK},
		{[]string{line(1001)}, api.ErrLong},
		{[]string{"a", line(1001), "b"}, api.ErrLong},
		{[]string{"a", "b", line(1001)}, api.ErrLong},
		{full, api.OK},
		{append(slices.Clone(full), ""), api.ErrLong},
		{[]string{strings.Repeat("\u00e9", 500)}, api.OK},
		{[]string{strings.Repeat("\u00e9", 501)}, api.ErrLong},
		// what is named first is told, wherever it stands
		{[]string{line(1001), "\n"}, api.ErrArg},
		{[]string{line(1001) + "\n"}, api.ErrArg},
		{append(make([]string, 2001), "\n"), api.ErrArg},
		{append([]string{"\n"}, make([]string, 2001)...), api.ErrArg},
	} {
		if e := Check(x.l); e != x.want {
			t.Errorf("Check, case %d: %v, not %v", i, e, x.want)
		}
	}
}

// P1.2
func TestSame(t *testing.T) {
	for _, x := range []struct {
		a, b []string
		want bool
	}{
		{nil, nil, true},
		{nil, []string{}, true},
		{[]string{}, nil, true},
		{nil, []string{""}, false},
		{[]string{""}, nil, false},
		{[]string{"a"}, []string{"a"}, true},
		{[]string{"a"}, []string{"b"}, false},
		{[]string{"a"}, []string{"A"}, false},
		{[]string{"a"}, []string{"a "}, false},
		{[]string{"a", "b"}, []string{"a", "b"}, true},
		{[]string{"a", "b"}, []string{"b", "a"}, false},
		{[]string{"a", "b"}, []string{"a", "c"}, false},
		{[]string{"a", "b"}, []string{"a"}, false},
		{[]string{"a"}, []string{"a", "b"}, false},
		{[]string{"a", ""}, []string{"a"}, false},
		{[]string{"ab", "c"}, []string{"a", "bc"}, false},
		{[]string{"a", "b"}, []string{"a\nb"}, false},
		{[]string{"a\nb", "c"}, []string{"a", "b\nc"}, false},
		{[]string{"\xff\n"}, []string{"\xff\n"}, true},
		{[]string{"\xff"}, []string{"\xfe"}, false},
	} {
		if got := Same(x.a, x.b); got != x.want {
			t.Errorf("Same(%q, %q): %v", x.a, x.b, got)
		}
	}
}

// P1.2
func TestSameOfAllShortLists(t *testing.T) {
	all := samples.Lists([]string{"", "a", "b"}, 3)
	for i, a := range all {
		for j, b := range all {
			if got := Same(a, slices.Clone(b)); got != (i == j) {
				t.Errorf("Same(%q, %q): %v", a, b, got)
			}
		}
	}
}

// P1.3
func TestWhatIsJoinedIsSplit(t *testing.T) {
	for _, want := range samples.Lists([]string{"", "a", "b\r", "\xff\x00"}, 5) {
		if l, ended := Split(Join(want)); !Same(l, want) || !ended {
			t.Errorf("Split of Join(%q): %q, %v", want, l, ended)
		}
	}
}

// P1.3
func TestWhatIsSplitIsJoined(t *testing.T) {
	for _, text := range samples.Texts("a\n\r\x00", 6) {
		l, ended := Split(text)
		s := Join(l)
		if !ended {
			s = strings.TrimSuffix(s, "\n")
		}
		if s != text {
			t.Errorf("Join of Split(%q): %q, %v", text, s, ended)
		}
	}
}

// R4
func TestArgumentsStay(t *testing.T) {
	for _, want := range [][]string{{}, {"b", "", "a"}, {"b\n", "a"}, {strings.Repeat("x", 1001), "\n"}} {
		l, other := slices.Clone(want), slices.Clone(want)
		Join(l)
		Check(l)
		Same(l, other)
		if !slices.Equal(l, want) || !slices.Equal(other, want) {
			t.Errorf("%.20q became %.20q and %.20q", want, l, other)
		}
	}
}

// R4
func TestListsAreOfTheirOwn(t *testing.T) {
	const text = "a\nb\nc"
	first, _ := Split(text)
	second, _ := Split(text)
	for i := range first {
		first[i] = "x"
	}
	_ = append(first[:1], "y", "z")
	if third, _ := Split(text); !Same(second, []string{"a", "b", "c"}) || !Same(third, second) {
		t.Errorf("%q, %q", second, third)
	}
}

func TestEachEndsWhereItsRangeDoes(t *testing.T) {
	all := each("a\nb\nc")
	for range 2 {
		var l []string
		for line, ended := range all {
			if l = append(l, line); !ended || line == "b" {
				break
			}
		}
		if !Same(l, []string{"a", "b"}) {
			t.Errorf("%q", l)
		}
	}
}
