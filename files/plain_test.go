package files

import (
	"fmt"
	"slices"
	"strings"
	"testing"

	"inkhorn/api"
)

// system is what FS is, and plain, too.
type system interface {
	Append(name, s string) api.Errno
	Sync(name string) api.Errno
	Truncate(name string, n int) api.Errno
	Rename(from, to string) api.Errno
	Remove(name string) api.Errno
	Read(name string) (string, api.Errno)
	Names() []string
	Size() int
	Unsynced() []int
	Up() bool
	Starts() int
	Crash(keep []int) api.Errno
	Fail(n int, keep []int) api.Errno
	Start() api.Errno
}

// plainFile has its bytes in two texts: what is on the platter, and what is in the air behind it.
type plainFile struct{ name, platter, air string }

func (x plainFile) all() string { return x.platter + x.air }

// plain is a file system as the document has it, word by word. A stroke makes a list of files, and another one takes its place.
type plain struct {
	limit  int
	list   []plainFile // rising by name
	on     bool
	starts int
	fails  bool
	ahead  int
	keep   []int
}

func (p *plain) at(name string) (plainFile, bool) {
	for _, x := range p.list {
		if x.name == name {
			return x, true
		}
	}
	return plainFile{}, false
}

// without is the list but for the files of some names.
func (p *plain) without(names ...string) []plainFile {
	var l []plainFile
	for _, x := range p.list {
		if !slices.Contains(names, x.name) {
			l = append(l, x)
		}
	}
	return l
}

// with is the list with a file in the place of the one of its name, if there is any.
func (p *plain) with(x plainFile, gone ...string) []plainFile {
	l := append(p.without(append(gone, x.name)...), x)
	slices.SortFunc(l, func(a, b plainFile) int { return strings.Compare(a.name, b.name) })
	return l
}

// turn is a stroke that was found to be OK: the list is what it leads to.
func (p *plain) turn(list []plainFile, appends bool) api.Errno {
	if !p.fails || p.ahead > 0 {
		p.list = list
		p.ahead--
		return api.OK
	}
	if appends {
		p.list = list
	}
	p.Crash(p.keep)
	return api.ErrDown
}

func (p *plain) Append(name, s string) api.Errno {
	x, there := p.at(name)
	switch {
	case !p.on:
		return api.ErrDown
	case len(name) < 1 || len(name) > 16:
		return api.ErrArg
	case !there && len(p.list) == 32, p.Size()+len(s) > p.limit:
		return api.ErrFull
	}
	return p.turn(p.with(plainFile{name, x.platter, x.air + s}), true)
}

func (p *plain) Sync(name string) api.Errno {
	x, there := p.at(name)
	switch {
	case !p.on:
		return api.ErrDown
	case !there:
		return api.ErrNone
	}
	return p.turn(p.with(plainFile{name, x.all(), ""}), false)
}

func (p *plain) Truncate(name string, n int) api.Errno {
	x, there := p.at(name)
	switch {
	case !p.on:
		return api.ErrDown
	case !there:
		return api.ErrNone
	case n < 0, n > len(x.all()):
		return api.ErrArg
	case n <= len(x.platter):
		return p.turn(p.with(plainFile{name, x.platter[:n], ""}), false)
	}
	return p.turn(p.with(plainFile{name, x.platter, x.air[:n-len(x.platter)]}), false)
}

func (p *plain) Rename(from, to string) api.Errno {
	x, there := p.at(from)
	switch {
	case !p.on:
		return api.ErrDown
	case !there:
		return api.ErrNone
	case len(to) < 1 || len(to) > 16:
		return api.ErrArg
	}
	return p.turn(p.with(plainFile{to, x.platter, x.air}, from), false)
}

func (p *plain) Remove(name string) api.Errno {
	_, there := p.at(name)
	switch {
	case !p.on:
		return api.ErrDown
	case !there:
		return api.ErrNone
	}
	return p.turn(p.without(name), false)
}

func (p *plain) Read(name string) (string, api.Errno) {
	x, there := p.at(name)
	switch {
	case !p.on:
		return "", api.ErrDown
	case !there:
		return "", api.ErrNone
	}
	return x.all(), api.OK
}

func (p *plain) Names() (l []string) {
	for _, x := range p.list {
		l = append(l, x.name)
	}
	return l
}

func (p *plain) Size() (n int) {
	for _, x := range p.list {
		n += len(x.all())
	}
	return n
}

func (p *plain) Unsynced() (l []int) {
	for _, x := range p.list {
		l = append(l, len(x.air))
	}
	return l
}

func (p *plain) Up() bool    { return p.on }
func (p *plain) Starts() int { return p.starts }

func (p *plain) Crash(keep []int) api.Errno {
	if !p.on {
		return api.ErrDown
	}
	for i, x := range p.list {
		stay := ""
		switch {
		case i >= len(keep), keep[i] < 0:
		case keep[i] > len(x.air):
			stay = x.air
		default:
			stay = x.air[:keep[i]]
		}
		p.list[i] = plainFile{x.name, x.platter + stay, ""}
	}
	p.on, p.fails = false, false
	return api.OK
}

func (p *plain) Fail(n int, keep []int) api.Errno {
	switch {
	case !p.on:
		return api.ErrDown
	case n < 0:
		return api.ErrArg
	}
	p.fails, p.ahead, p.keep = true, n, keep
	return api.OK
}

func (p *plain) Start() api.Errno {
	if p.on {
		return api.ErrArg
	}
	p.on = true
	p.starts++
	return api.OK
}

// state is all that a file system tells of itself.
func state(s system) string {
	var b strings.Builder
	fmt.Fprint(&b, s.Up(), s.Starts(), s.Size(), s.Unsynced())
	for _, name := range append(s.Names(), "", "none") {
		text, e := s.Read(name)
		fmt.Fprintf(&b, " %q: %q %d", name, text, e)
	}
	return b.String()
}

// act is one call, with its name.
type act struct {
	name string
	do   func(s system) api.Errno
}

func appends(name, s string) act {
	return act{fmt.Sprintf("Append %q %q", name, s), func(x system) api.Errno { return x.Append(name, s) }}
}

func syncs(name string) act {
	return act{fmt.Sprintf("Sync %q", name), func(x system) api.Errno { return x.Sync(name) }}
}

func truncates(name string, n int) act {
	return act{fmt.Sprintf("Truncate %q %d", name, n), func(x system) api.Errno { return x.Truncate(name, n) }}
}

func renames(from, to string) act {
	return act{fmt.Sprintf("Rename %q %q", from, to), func(x system) api.Errno { return x.Rename(from, to) }}
}

func removes(name string) act {
	return act{fmt.Sprintf("Remove %q", name), func(x system) api.Errno { return x.Remove(name) }}
}

func crashes(keep ...int) act {
	return act{fmt.Sprint("Crash ", keep), func(x system) api.Errno { return x.Crash(keep) }}
}

func fails(n int, keep ...int) act {
	return act{fmt.Sprint("Fail ", n, keep), func(x system) api.Errno { return x.Fail(n, keep) }}
}

func starts() act {
	return act{"Start", func(x system) api.Errno { return x.Start() }}
}

// names tells acts for a failing test.
func names(acts []act) string {
	var l []string
	for _, a := range acts {
		l = append(l, a.name)
	}
	return strings.Join(l, "; ")
}

// checkActs tells where, behind some acts, FS answers or is something else than plain.
func checkActs(t *testing.T, limit int, acts ...act) {
	t.Helper()
	f, e := New(limit)
	if e != api.OK {
		t.Fatalf("New(%d): %d", limit, e)
	}
	p := &plain{limit: limit, on: true}
	for i, a := range acts {
		got, want := a.do(f), a.do(p)
		if got != want {
			t.Fatalf("%s: %d, not %d", names(acts[:i+1]), got, want)
		}
	}
	if got, want := state(f), state(p); got != want {
		t.Fatalf("%s: %s, not %s", names(acts), got, want)
	}
}

// P5.1 to P5.5: all rows of a few acts, on a small file system.
func TestAllRowsOfActs(t *testing.T) {
	some := []act{
		appends("a", "12"), appends("a", ""), appends("b", "xyz"), appends("", "1"), syncs("a"), syncs("b"),
		truncates("a", 1), truncates("a", 0), truncates("b", -1), renames("a", "b"), renames("a", "a"), renames("b", "a"),
		renames("b", ""), removes("a"), crashes(), crashes(1, 1), crashes(-1, 9), fails(0, 1, 2), fails(1, 0, 1), fails(-1), starts(),
	}
	var row func(acts []act)
	row = func(acts []act) {
		checkActs(t, 6, acts...)
		if len(acts) == 4 {
			return
		}
		for _, a := range some {
			row(append(acts, a))
		}
	}
	row(nil)
}

// P5.1 to P5.6: what a long row of acts leads to, each drawn by a number that hangs on the one ahead.
func TestLongRowsOfActs(t *testing.T) {
	for seed := range 200 {
		next := uint64(seed)
		draw := func(n int) int {
			next = next*6364136223846793005 + 1442695040888963407
			return int(next>>33) % n
		}
		name := func() string {
			return []string{"a", "b", "c", "~", "log", strings.Repeat("n", 16), "", strings.Repeat("n", 17)}[draw(8)]
		}
		keep := func() []int {
			l := make([]int, draw(5))
			for i := range l {
				l[i] = draw(12) - 2
			}
			return l
		}
		limit := 1 + draw(60)
		f, _ := New(limit)
		p := &plain{limit: limit, on: true}
		var done []act
		for range 400 {
			all := []act{
				appends(name(), strings.Repeat("pq\n", draw(4))), appends(name(), "uvwxyz"[draw(6):]), syncs(name()), truncates(name(), draw(20)-3),
				renames(name(), name()), removes(name()), starts(), starts(), crashes(keep()...), fails(draw(12)-1, keep()...),
			}
			a := all[draw(len(all))]
			done = append(done, a)
			if got, want := a.do(f), a.do(p); got != want {
				t.Fatalf("%s: %d, not %d", names(done), got, want)
			}
			if got, want := state(f), state(p); got != want {
				t.Fatalf("%s: %s, not %s", names(done), got, want)
			}
		}
	}
}
