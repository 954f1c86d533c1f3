package cmds

import (
	"reflect"
	"slices"
	"strings"
	"testing"

	"inkhorn/addr"
	"inkhorn/api"
)

// named is a command without addresses, of which no more than its name is said.
func named(name byte) api.Cmd { return api.Cmd{Name: name} }

// told is a command with what is told behind it.
func told(x api.Cmd, print byte) api.Cmd {
	x.Print = print
	return x
}

// lettered, filed, led and global are those with a letter, a file's name, a destination, or a pattern and a command line.
func lettered(name, letter byte) api.Cmd { return api.Cmd{Name: name, Letter: letter} }

func filed(name byte, file string) api.Cmd { return api.Cmd{Name: name, Name2: file} }

func led(name byte, dest api.Address) api.Cmd { return api.Cmd{Name: name, Dest: dest} }

func globally(name byte, re, sub string) api.Cmd { return api.Cmd{Name: name, Re: re, Sub: sub} }

// instead is an s of the first match.
func instead(re, repl string) api.Cmd { return api.Cmd{Name: 's', Re: re, Repl: repl, Nth: 1} }

// flagged is an s of a match on, all of them or not, with what is told behind it.
func flagged(x api.Cmd, nth int, all bool, print byte) api.Cmd {
	x.Nth, x.All, x.Print = nth, all, print
	return x
}

// same tells whether two commands are the same, where a list may be nil or empty.
func same(x, y api.Cmd) bool {
	sameRange := slices.Equal(x.Range.List, y.Range.List) && slices.Equal(x.Range.Semi, y.Range.Semi)
	x.Range, y.Range = api.Range{}, api.Range{}
	return sameRange && reflect.DeepEqual(x, y)
}

func checkParse(t *testing.T, line string, want api.Cmd, e api.Errno) {
	t.Helper()
	if got, err := Parse(line); !same(got, want) || err != e {
		t.Errorf("Parse of %.80q: %.200v, %d, not %.200v, %d", line, got, err, want, e)
	}
}

// checkCmd is for lines that are commands.
func checkCmd(t *testing.T, line string, want api.Cmd) {
	t.Helper()
	checkParse(t, line, want, api.OK)
}

// checkErrors is for lines that are none.
func checkErrors(t *testing.T, e api.Errno, lines ...string) {
	t.Helper()
	for _, line := range lines {
		checkParse(t, line, api.Cmd{}, e)
	}
}

func checkAsks(t *testing.T, s, want string, e api.Errno) {
	t.Helper()
	if got, err := Asks(s); got != want || err != e {
		t.Errorf("Asks of %.80q: %.80q, %d, not %.80q, %d", s, got, err, want, e)
	}
}

// ranged is the range of a text that is nothing else.
func ranged(s string) api.Range {
	r, next, e := addr.Parse(s)
	if next != len(s) || e != api.OK {
		panic("no range: " + s)
	}
	return r
}

// at is a command with a range.
func at(s string, x api.Cmd) api.Cmd {
	x.Range = ranged(s)
	return x
}

// bytesBut is all bytes but some, each as a text.
func bytesBut(some string) []string {
	var all []string
	for b := range 256 {
		if strings.IndexByte(some, byte(b)) < 0 {
			all = append(all, string([]byte{byte(b)}))
		}
	}
	return all
}

func TestExamples(t *testing.T) {
	checkCmd(t, "1,3p", at("1,3", named('p')))
	checkCmd(t, "", api.Cmd{})
	checkErrors(t, api.ErrSuffix, ".d l")
	checkCmd(t, "s/a/b/", instead("a", "b"))
	checkCmd(t, "s/a/b", told(instead("a", "b"), 'p'))
	checkCmd(t, "s/a/b/3gp", flagged(instead("a", "b"), 3, true, 'p'))
	checkErrors(t, api.ErrSuffix, "s/a/b/gg")
	checkErrors(t, api.ErrPattern, "s")
	checkCmd(t, "g/x/d", globally('g', "x", "d"))
	checkCmd(t, "g/x", globally('g', "x", "p"))
	checkCmd(t, "v,x,s/y/z/", globally('v', "x", "s/y/z/"))
	checkCmd(t, "m$p", told(led('m', api.Address{Kind: api.AdLast}), 'p'))
	checkCmd(t, "kb", lettered('k', 'b'))
	checkErrors(t, api.ErrSuffix, "k")
	checkCmd(t, "ya A", lettered('Y', 'A'))
	checkCmd(t, "pub", lettered('P', 'b'))
	checkCmd(t, "w out", filed('w', "out"))
	checkCmd(t, "w", named('w'))
	checkErrors(t, api.ErrSuffix, "wout")
	checkErrors(t, api.ErrCommand, "w !ls", "x")
}

// P21.1: a range, as addr.Parse reads it, and blanks behind it.
func TestRanges(t *testing.T) {
	for _, s := range []string{"", ".", "%", " %", "1,3", "1;3", ",", ";;", "/p/", "/a/;?b?-2", "'a,$", " 1 , 2 3", "1,2,3,4"} {
		checkCmd(t, s, at(s, api.Cmd{}))
		checkCmd(t, s+" \t ", at(s+strings.Repeat(" ", left(s)), api.Cmd{}))
		checkCmd(t, s+"p", at(s, named('p')))
		checkCmd(t, s+"\t p", at(s+strings.Repeat(" ", left(s)), named('p')))
		checkCmd(t, s+"s/a/b/g", at(s, flagged(instead("a", "b"), 1, true, 0)))
		checkCmd(t, s+" ya a", at(s+strings.Repeat(" ", left(s)), lettered('Y', 'a')))
	}
	checkCmd(t, "/p", at("/p", api.Cmd{}))
	checkCmd(t, "/\\p/p", at("/\\p/", named('p')))
	checkCmd(t, "1 2p", at("1 2", named('p')))
	checkCmd(t, "$ \t1d", at("$ \t1", named('d')))
}

// left is 1, if blanks behind a range are an address's own, as nothing else of it is there.
func left(s string) int {
	if s != "" && strings.IndexByte(",;", s[len(s)-1]) >= 0 {
		return 1
	}
	return 0
}

// P21.1: addr.Parse's error, whatever stands behind.
func TestRangeErrors(t *testing.T) {
	checkErrors(t, api.ErrAddress, "'", "'A", "'1x", "1234567890", "1,'", "1;+1234567890p", "1234567890 s", "1,2,'!w !ls")
}

// P21.1: the commands that have a suffix alone.
func TestSuffixes(t *testing.T) {
	for _, name := range []byte("acidjlnpu=><") {
		c := string([]byte{name})
		checkCmd(t, c, named(name))
		for _, print := range []byte("pln") {
			checkCmd(t, c+string([]byte{print}), told(named(name), print))
			checkErrors(t, api.ErrSuffix, c+" "+string([]byte{print}), c+string([]byte{print, ' '}), c+string([]byte{print, print}))
		}
		behind := "pln"
		if name == 'p' {
			behind += "u"
		}
		for _, b := range bytesBut(behind) {
			checkErrors(t, api.ErrSuffix, c+b, c+"p"+b, c+b+"p")
		}
	}
	checkErrors(t, api.ErrSuffix, "ppl", "pln", "dpp", ">>", "=1", "d3", "p;p", "u\n")
}

// P21.1: names that are none, whatever stands behind.
func TestNoNames(t *testing.T) {
	for _, b := range bytesBut(names + blanks + "0123456789.$'/?+-,;%") {
		checkErrors(t, api.ErrCommand, b, b+"p", b+"/a/b/", "1,2"+b, "% "+b+" a")
	}
	checkErrors(t, api.ErrCommand, "y", "y a", "yb", "Ya", "Y", "P", "PU", "yA", "!", "!ls", "\x00", "\x00a", "\xc3\xa9", "\n", "1x", "b")
}

// names is all bytes that are names.
const names = "acidjlnpu=><kmtsgvzhqQeEfrwW"

// P21.1: the letter of k, blanks ahead of it, and its suffix.
func TestMarks(t *testing.T) {
	for b := range 256 {
		c := string([]byte{byte(b)})
		switch {
		case c >= "a" && c <= "z":
			checkCmd(t, "k"+c, lettered('k', c[0]))
			checkCmd(t, "k \t "+c, lettered('k', c[0]))
			checkCmd(t, "3k"+c+"l", at("3", told(lettered('k', c[0]), 'l')))
			checkCmd(t, "k "+c+"p", told(lettered('k', c[0]), 'p'))
		default:
			checkErrors(t, api.ErrSuffix, "k"+c, "k "+c, "ka"+c, "ka"+c+"p", "kap"+c)
		}
	}
	checkErrors(t, api.ErrSuffix, "k", "k ", "k a p", "kab", "kapp", "kapl", "kA", "k\na")
	checkCmd(t, "kpp", told(lettered('k', 'p'), 'p'))
}

// P21.1: the registers of ya and pu, or none, and what stands behind.
func TestRegisters(t *testing.T) {
	for text, name := range map[string]byte{"ya": 'Y', "pu": 'P'} {
		checkCmd(t, text, named(name))
		checkCmd(t, "1,2"+text, at("1,2", named(name)))
		for b := range 256 {
			c := string([]byte{byte(b)})
			switch {
			case c >= "a" && c <= "z" || c >= "A" && c <= "Z":
				checkCmd(t, text+c, lettered(name, c[0]))
				checkCmd(t, text+"\t "+c, lettered(name, c[0]))
				checkCmd(t, text+" "+c+"n", told(lettered(name, c[0]), 'n'))
			default:
				checkErrors(t, api.ErrSuffix, text+c, text+" "+c, text+"a"+c, text+" A"+c+"p", text+"ap"+c)
			}
		}
		checkCmd(t, text+"p", lettered(name, 'p')) // the letter is looked for ahead of a suffix
		checkCmd(t, text+"pp", told(lettered(name, 'p'), 'p'))
		checkErrors(t, api.ErrSuffix, text+" ", text+"\t", text+"1", text+"ab", text+" a p", text+"apl")
	}
	checkErrors(t, api.ErrCommand, "y", "yu", "y a")
	checkErrors(t, api.ErrSuffix, "p u", "pU", "p a")
}

// P21.1: where m and t lead, as addr.One reads it, its error, and what stands behind.
func TestDestinations(t *testing.T) {
	for _, name := range []byte("mt") {
		c := string([]byte{name})
		for _, s := range []string{"", " ", "0", ".", " $", "'a", "+", "-2", "$-1 2", "/a/", "/a", "?b?+", " \t7"} {
			a, next, e := addr.One(s)
			if next != len(s) || e != api.OK {
				t.Errorf("One of %q: %d, %d", s, next, e)
			}
			checkCmd(t, c+s, led(name, a))
			checkCmd(t, "1,2"+c+s, at("1,2", led(name, a)))
			if s != "/a" {
				checkCmd(t, c+s+"p", told(led(name, a), 'p'))
				checkCmd(t, c+s+"l", told(led(name, a), 'l'))
				checkErrors(t, api.ErrSuffix, c+s+"pp", c+s+"d", c+s+"p ", c+s+",", c+s+",2", c+s+"%", c+s+"\n")
			}
		}
		checkErrors(t, api.ErrAddress, c+"'", c+" 'A", c+"1234567890", c+"1+1234567890x", c+"'1p")
		checkErrors(t, api.ErrSuffix, c+"0 ", c+"0 p", c+"$ \t", c+"1,2", c+"1;2", c+"%", c+"1 x")
	}
}

// P21.1: at most four digits behind a z.
func TestDigits(t *testing.T) {
	for _, s := range []string{"", "0", "1", "07", "999", "0000", "9999"} {
		checkCmd(t, "z"+s, filed('z', s))
		checkCmd(t, "5z"+s, at("5", filed('z', s)))
		for _, b := range bytesBut("0123456789") {
			checkErrors(t, api.ErrSuffix, "z"+b+s, "z"+s+b)
		}
	}
	checkErrors(t, api.ErrSuffix, "z10000", "z00000", "z12345", "z1x2", "z1 2", "z 1", "z-1", "z+", "zp", "z1p", "z\xd9\xa3", "z"+strings.Repeat("9", 5000))
}

// P21.1: the commands to which nothing belongs.
func TestNothingBelongs(t *testing.T) {
	for _, name := range []byte("hqQ") {
		c := string([]byte{name})
		checkCmd(t, c, named(name))
		checkCmd(t, " \t"+c, named(name))
		checkCmd(t, "1,2"+c, at("1,2", named(name)))
		for _, b := range bytesBut("") {
			checkErrors(t, api.ErrSuffix, c+b, c+b+b)
		}
	}
}

// P21.1, P21.2: the files' names of e, E, f, r, w and W, as Asks tells them, and its errors.
func TestFiles(t *testing.T) {
	for _, name := range []byte("eEfrwW") {
		c := string([]byte{name})
		for _, s := range []string{"", " ", "a", " a", "\tout", " \t out.txt", " a b", " a ", " !ls", " a!", "!ls", " ! ls", "\n", " \n", " 1,2p", "p"} {
			file, e := Asks(s)
			if e != api.OK {
				checkErrors(t, e, c+s, "1,2"+c+s)
				continue
			}
			checkCmd(t, c+s, filed(name, file))
			checkCmd(t, "1,2 "+c+s, at("1,2", filed(name, file)))
		}
	}
}

// P21.2: nothing; blanks, and what stands behind them.
func TestAsks(t *testing.T) {
	checkAsks(t, "", "", api.OK)
	checkAsks(t, " ", "", api.OK)
	checkAsks(t, " \t  ", "", api.OK)
	checkAsks(t, " out", "out", api.OK)
	checkAsks(t, "\tout", "out", api.OK)
	checkAsks(t, " \t \tout", "out", api.OK)
	checkAsks(t, " o!t", "o!t", api.OK)
	checkAsks(t, " o!", "o!", api.OK)
	checkAsks(t, " \x00\xff\n", "\x00\xff\n", api.OK)
	checkAsks(t, " "+strings.Repeat("a", 100), strings.Repeat("a", 100), api.OK) // whether a file may have it is not asked here
	for _, b := range bytesBut(" \t") {
		checkAsks(t, b, "", api.ErrSuffix)
		checkAsks(t, b+" out", "", api.ErrSuffix)
		if b != "!" {
			checkAsks(t, " "+b, b, api.OK)
			checkAsks(t, "\t"+b+"!"+b, b+"!"+b, api.OK)
		}
		checkAsks(t, " !"+b, "", api.ErrCommand)
		checkAsks(t, " x"+b+" ", "", api.ErrCommand)
		checkAsks(t, " x\t"+b, "", api.ErrCommand)
	}
	checkAsks(t, "!", "", api.ErrSuffix)
	checkAsks(t, "!ls", "", api.ErrSuffix)
	checkAsks(t, "out ", "", api.ErrSuffix)
	checkAsks(t, " !", "", api.ErrCommand)
	checkAsks(t, " \t!ls", "", api.ErrCommand)
	checkAsks(t, " ! ls", "", api.ErrCommand)
	checkAsks(t, " a ", "", api.ErrCommand)
	checkAsks(t, " a\t", "", api.ErrCommand)
	checkAsks(t, " a b", "", api.ErrCommand)
	checkAsks(t, " a \t b", "", api.ErrCommand)
}

// P21.2: a, c and i, and no other one, whatever belongs to it.
func TestText(t *testing.T) {
	for b := range 256 {
		x := api.Cmd{Name: byte(b), Re: "a", Repl: "c", Sub: "i", Letter: 'a', Print: 'i', Nth: 1}
		if got := Text(x); got != (b == 'a' || b == 'c' || b == 'i') || Text(named(byte(b))) != got {
			t.Errorf("Text of %d: %v", b, got)
		}
	}
	for line, want := range map[string]bool{"a": true, "1,2c": true, "0ip": true, "": false, "d": false, "1,2ya": false, "g/x/a": false} {
		if x, e := Parse(line); e != api.OK || Text(x) != want {
			t.Errorf("%q: %d, %v", line, e, Text(x))
		}
	}
}

// P21.1: any byte but a blank 32 and a backslash delimits a pattern; P21.3.
func TestDelimiters(t *testing.T) {
	checkErrors(t, api.ErrPattern, "s", "s ", "s a b ", "s\\", "s\\a\\b\\", "1,2s", "s /a/b/")
	checkErrors(t, api.ErrPattern, "g", "v ", "g x d", "v\\", "v\\x\\d", "g /x/d")
	for _, by := range bytesBut(" \\") {
		re, repl := "x", "z"
		if by == "x" || by == "z" {
			re, repl = "v", "w"
		}
		checkCmd(t, "s"+by+re+by+repl, told(instead(re, repl), 'p'))
		checkCmd(t, "s"+by+re+by+repl+by+"l", told(instead(re, repl), 'l'))
		checkCmd(t, "s"+by+by+by, instead("", ""))
		checkCmd(t, "s"+by+by, told(instead("", ""), 'p'))
		checkErrors(t, api.ErrPattern, "s"+by, "s"+by+re)
		checkCmd(t, "g"+by+re+by+"d", globally('g', re, "d"))
		checkCmd(t, "v"+by+re, globally('v', re, "p"))
		checkCmd(t, "g"+by, globally('g', "", "p"))
	}
}

// P21.1: what a backslash and the delimiter say, in a pattern and in a replacement.
func TestDelimited(t *testing.T) {
	checkCmd(t, `s/a\/b/c\/d/`, instead("a/b", "c/d"))
	checkCmd(t, `s/a\.b/c\&d/`, instead(`a\.b`, `c\&d`))
	checkCmd(t, `s/a\\/b/`, instead(`a\\`, "b"))
	checkCmd(t, `s,a/b,c/d,g`, flagged(instead("a/b", "c/d"), 1, true, 0))
	checkCmd(t, `s/a/\/`, told(instead("a", "/"), 'p')) // this delimiter belongs to the replacement
	checkCmd(t, `s&a&\&&`, instead("a", "&"))
	checkCmd(t, `snan\nbn`, instead("a", "nb"))
	checkCmd(t, `s.a\.b.c.`, instead("a.b", "c"))
	checkCmd(t, "s\na\nb\np", told(instead("a", "b"), 'p'))
	checkCmd(t, "s/a\nb/c\nd/", instead("a\nb", "c\nd"))
	checkCmd(t, `g/a\/b/s,c\,d,e,`, globally('g', "a/b", `s,c\,d,e,`))
	checkCmd(t, `s1\(a\)1\11`, instead(`\(a\)`, "1"))
	checkErrors(t, api.ErrPattern, `s/a\/b`, `s(\(a\)(b(`, `s/[/]/b/`)
}

// P21.1: patterns that are none, or have no end, ahead of what is wrong with a replacement, or with flags.
func TestPatterns(t *testing.T) {
	for _, re := range []string{`\(`, `a\)`, "[", "[a", `a\{1`, `\1`, strings.Repeat("a", api.MaxParts+1), strings.Repeat(`\(a\)`, api.MaxGroups+1)} {
		checkErrors(t, api.ErrPattern, "s/"+re, "s/"+re+"/", "s/"+re+"/b/", "s/"+re+"/\\", "s/"+re+`/\9/`, "s/"+re+"/b/gg", "1,2s/"+re+"/b/")
		checkErrors(t, api.ErrPattern, "g/"+re, "v/"+re+"/d", "g/"+re+"/ ")
	}
	for _, re := range []string{"a.*$", "^*", `\(a\)\1`, strings.Repeat("a", api.MaxParts), strings.Repeat(`\(a\)`, api.MaxGroups), "[]x]", "\xff"} {
		checkCmd(t, "s/"+re+"/b/", instead(re, "b"))
		checkCmd(t, "v/"+re+"/d", globally('v', re, "d"))
		checkCmd(t, "v/"+re, globally('v', re, "p"))
		checkErrors(t, api.ErrPattern, "s/"+re)
	}
	checkErrors(t, api.ErrPattern, "s/a", "s/", `s/a\`, `s/\`, `g/a\`, `g/\`)
}

// P21.1: replacements that are none, and those that ask for groups; ahead of what is wrong with flags.
func TestReplacements(t *testing.T) {
	checkErrors(t, api.ErrRepl, `s/a/\`, `s/a/b\`, `s//\`, `s/a/\\\`, `s/a/\1/`, `s/a/\1`, `s/a/\1/gg`, `s/\(a\)/\2/`, `s/\(a\)/\1\9\1/p`, `s/\(a\)\(\(b\)\)/\4/`)
	checkCmd(t, `s/\(a\)/\1/`, instead(`\(a\)`, `\1`))
	checkCmd(t, `s/\(a\)\(\(b\)\)/\3\1/`, instead(`\(a\)\(\(b\)\)`, `\3\1`))
	nine := strings.Repeat(`\(a\)`, 9)
	checkCmd(t, "s/"+nine+`/\9/`, instead(nine, `\9`))
	checkCmd(t, `s//\9/`, instead("", `\9`)) // the pattern is the one that was used last
	checkCmd(t, `s//\1`, told(instead("", `\1`), 'p'))
	checkCmd(t, `s/a/\0\&&\n/`, instead("a", `\0\&&\n`))
	checkCmd(t, `s/a//`, instead("a", ""))
}

// P21.1: flags, each at most once, in any order.
func TestFlags(t *testing.T) {
	x := instead("a", "b")
	for s, want := range map[string]api.Cmd{
		"": x, "g": flagged(x, 1, true, 0), "p": told(x, 'p'), "l": told(x, 'l'), "n": told(x, 'n'), "2": flagged(x, 2, false, 0),
		"gp": flagged(x, 1, true, 'p'), "pg": flagged(x, 1, true, 'p'), "l2": flagged(x, 2, false, 'l'), "2n": flagged(x, 2, false, 'n'),
		"g2": flagged(x, 2, true, 0), "12g": flagged(x, 12, true, 0), "g3l": flagged(x, 3, true, 'l'), "p3g": flagged(x, 3, true, 'p'), "3pg": flagged(x, 3, true, 'p'),
		"1": x, "01": x, "0007": flagged(x, 7, false, 0), "10": flagged(x, 10, false, 0), "999": flagged(x, 999, false, 0),
	} {
		checkCmd(t, "s/a/b/"+s, want)
		checkCmd(t, "1,2s,a,b,"+s, at("1,2", want))
	}
	for _, s := range []string{"gg", "pp", "pl", "ln", "pgp", "gpg", "1g1", "2p3", "0", "00", "0g", "p0", "0p", "0g1", "-1", "+1", " ", " g", "g ", "g p", "1 2", "1x", "/", "/g", "d", "gr", "\n", "\x00", "P", "\xb2"} {
		checkErrors(t, api.ErrSuffix, "s/a/b/"+s, "%s/a/b/"+s, "s//b/"+s)
	}
	for _, b := range bytesBut("gpln123456789") {
		checkErrors(t, api.ErrSuffix, "s/a/b/"+b, "s/a/b/g"+b, "s/a/b/"+b+"p")
	}
}

// P21.1: a number is read on as long as it is below 1000; another one may not stand behind it.
func TestNumbers(t *testing.T) {
	x := instead("a", "b")
	checkCmd(t, "s/a/b/1000", flagged(x, 1000, false, 0))
	checkCmd(t, "s/a/b/9999", flagged(x, 9999, false, 0))
	checkCmd(t, "s/a/b/g9999p", flagged(x, 9999, true, 'p'))
	checkCmd(t, "s/a/b/0000001234", flagged(x, 1234, false, 0))
	checkErrors(t, api.ErrSuffix, "s/a/b/10000", "s/a/b/99999", "s/a/b/12345", "s/a/b/00010000", "s/a/b/1000g1", "s/a/b/99999999999999999999999", "s/a/b/18446744073709551617")
	checkErrors(t, api.ErrSuffix, "s/a/b/"+strings.Repeat("0", 5000), "s/a/b/"+strings.Repeat("9", 5000))
	checkCmd(t, "s/a/b/"+strings.Repeat("0", 5000)+"5", flagged(x, 5, false, 0))
}

// P21.1: a replacement whose end is not delimited has no flags.
func TestOpenReplacements(t *testing.T) {
	checkCmd(t, "s/a/bg", told(instead("a", "bg"), 'p'))
	checkCmd(t, "s/a/3", told(instead("a", "3"), 'p'))
	checkCmd(t, "s/a/", told(instead("a", ""), 'p'))
	checkCmd(t, "s//", told(instead("", ""), 'p'))
	checkCmd(t, "s/a/b ", told(instead("a", "b "), 'p'))
}

// P21.1: the command line of g and v, which is p where nothing but blanks is there; what it says is not asked yet.
func TestGlobals(t *testing.T) {
	for _, name := range []byte("gv") {
		c := string([]byte{name})
		for _, s := range []string{"d", "s/y/z/gg", "g/y/d", "x", "'", " d", " \td ", "1,2p", "/", "\n", " \n", "p", "!"} {
			checkCmd(t, c+"/x/"+s, globally(name, "x", s))
			checkCmd(t, "1,2"+c+"//"+s, at("1,2", globally(name, "", s)))
		}
		for _, s := range []string{"", " ", "\t", " \t \t"} {
			checkCmd(t, c+"/x/"+s, globally(name, "x", "p"))
		}
		checkCmd(t, c+"/x", globally(name, "x", "p"))
		checkCmd(t, c+"/x d", globally(name, "x d", "p"))
		checkCmd(t, c+"/", globally(name, "", "p"))
	}
}

// R1, P21.1: great lines.
func TestGreatLines(t *testing.T) {
	const many = 200000
	checkErrors(t, api.ErrSuffix, "p"+strings.Repeat("p", many), "k"+strings.Repeat(" ", many), "ya"+strings.Repeat(" ", many), "w"+strings.Repeat("w", many))
	checkErrors(t, api.ErrCommand, strings.Repeat(" ", many)+"x", "w "+strings.Repeat("w ", many))
	checkErrors(t, api.ErrPattern, "s"+strings.Repeat(`\(`, many), "s/"+strings.Repeat(`\(`, many)+"/", "s/"+strings.Repeat("a", many))
	checkCmd(t, strings.Repeat(" ", many)+"p", named('p'))
	checkCmd(t, strings.Repeat("+", many)+"p", at(strings.Repeat("+", many), named('p')))
	checkCmd(t, "s/a/"+strings.Repeat("b", many), told(instead("a", strings.Repeat("b", many)), 'p'))
	checkCmd(t, "g/a/"+strings.Repeat("g/a/", many), globally('g', "a", strings.Repeat("g/a/", many)))
	checkAsks(t, strings.Repeat(" ", many)+"a", "a", api.OK)
}

// R4: what a line says is its own each time that it is read.
func TestListsAreNotShared(t *testing.T) {
	x, _ := Parse("1,2;3p")
	x.Range.List[0].N, x.Range.Semi[0] = 9, true
	checkCmd(t, "1,2;3p", at("1,2;3", named('p')))
	y, _ := Parse("%p")
	y.Range.List[0].N, y.Range.Semi[0] = 9, true
	checkCmd(t, "%p", at("%", named('p')))
}
