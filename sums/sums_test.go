package sums

import (
	"math"
	"math/big"
	"strings"
	"testing"

	"inkhorn/samples"
)

// slowSum says byte by byte what the document says of a text's weight.
func slowSum(s string) uint32 {
	first, second := new(big.Int), new(big.Int)
	for i := range len(s) {
		first.Add(first, big.NewInt(int64(s[i])))
		second.Add(second, big.NewInt(int64(s[i])*int64(len(s)-i)))
	}
	return numberOf(first, second)
}

// slowJoin says in numbers without bounds what the document says of sums that are put together.
func slowJoin(a, b uint32, n int) uint32 {
	half := func(of uint32, shift uint) *big.Int {
		return new(big.Int).Mod(big.NewInt(int64(of>>shift&0xffff)), big.NewInt(65535))
	}
	first := new(big.Int).Add(half(a, 0), half(b, 0))
	second := new(big.Int).Mul(half(a, 0), big.NewInt(int64(n)))
	second.Add(second, half(a, 16)).Add(second, half(b, 16))
	return numberOf(first, second)
}

// numberOf is the number of two parts, each taken modulo 65535 (from 0 on, as Mod of package big is).
func numberOf(first, second *big.Int) uint32 {
	modulus := big.NewInt(65535)
	f, s := new(big.Int).Mod(first, modulus), new(big.Int).Mod(second, modulus)
	return uint32(65536*s.Int64() + f.Int64())
}

// longTexts are texts whose parts go past the modulus, once or often, or meet it.
func longTexts() []string {
	all := []string{
		strings.Repeat("\xff", 256), strings.Repeat("\xff", 257), strings.Repeat("\xff", 258),
		strings.Repeat("\xff", 65534), strings.Repeat("\xff", 65535), strings.Repeat("\xff", 65536),
		strings.Repeat("\xff", 300001), strings.Repeat("\x01", 65535), strings.Repeat("\x00", 70000),
		"a" + strings.Repeat("\x00", 65534), "a" + strings.Repeat("\x00", 65535), strings.Repeat("\u00e9\n", 1000),
	}
	mixed := make([]byte, 100003)
	for i := range mixed {
		mixed[i] = byte(i*i + i>>3)
	}
	return append(all, string(mixed), string(mixed[:5003]))
}

// sums are numbers of which some halves are the modulus, next to it, or as great as a half may be.
func sums() []uint32 {
	halves := []uint32{0, 1, 255, 32768, 65533, 65534, 65535}
	var all []uint32
	for _, low := range halves {
		for _, high := range halves {
			all = append(all, high<<16|low)
		}
	}
	return append(all, 0x610061, 0x12400c3, 0x24a0126, 0xdeadbeef)
}

// counts are numbers of bytes around those at which something wraps round; negative ones, too.
func counts() []int {
	all := []int{math.MinInt, math.MinInt + 1, math.MinInt32, math.MaxInt32, math.MaxInt32 + 1, math.MaxInt - 1, math.MaxInt}
	for _, n := range []int{0, 65535, 131070, 65535 * 65535, 1 << 16, 1 << 31, 1 << 32, 1 << 47} {
		for off := -3; off <= 3; off++ {
			all = append(all, n+off, -n+off)
		}
	}
	return all
}

// P3.1
func TestSum(t *testing.T) {
	for _, x := range []struct {
		s    string
		want uint32
	}{
		{"", 0},
		{"a", 0x610061},
		{"ab", 0x12400c3},
		{"abc", 0x24a0126},
		{"ba", 0x12500c3}, // the order counts
		{"\x00", 0},
		{"\x00\x00\x00", 0},
		{"\x01\x00", 0x20001},
		{"\x00\x01", 0x10001},
		{"\xff", 0xff00ff}, // bytes are not signed
		{"\u00e9", 0x22f016c},
		{"\n", 0xa000a},
		{strings.Repeat("\xff", 257), 0}, // 255 * 257 is the modulus, and the second part is 129 times it
		{strings.Repeat("\xff", 258), 0x00ff00ff},
		{strings.Repeat("\x01", 65535), 0},
		{strings.Repeat("\x01", 65536), 0x10001},
	} {
		if got := Sum(x.s); got != x.want {
			t.Errorf("Sum(%.20q): %x, not %x", x.s, got, x.want)
		}
	}
}

// P3.1
func TestSumIsWhatATextWeighs(t *testing.T) {
	for _, s := range append(samples.Texts("\x00\x01a\xff", 6), longTexts()...) {
		if got := Sum(s); got != slowSum(s) {
			t.Errorf("Sum of %d bytes, %.20q: %x, not %x", len(s), s, got, slowSum(s))
		}
	}
}

// P3.1
func TestMore(t *testing.T) {
	for _, x := range []struct {
		sum  uint32
		s    string
		want uint32
	}{
		{0, "", 0},
		{0x610061, "", 0x610061},
		{0x610061, "b", 0x12400c3},
		{0x12400c3, "c", 0x24a0126},
		{0xffffffff, "", 0}, // halves that are the modulus
		{0xfffeffff, "", 0xfffe0000},
		{0xfffffffe, "", 0xfffe},
		{0xffffffff, "a", 0x610061},
		{0xfffefffe, "\x01", 0xfffe0000},
		{0xfffefffe, "\x01\x00", 0xfffe0000},
		{1, "\x00\x00\x00", 0x30001},
		{1, strings.Repeat("\x00", 65535), 1},
		{1, strings.Repeat("\x00", 65536), 0x10001},
	} {
		if got := More(x.sum, x.s); got != x.want {
			t.Errorf("More(%x, %.20q): %x, not %x", x.sum, x.s, got, x.want)
		}
	}
	for _, sum := range sums() {
		for _, s := range append(samples.Texts("\x00a\xff", 3), longTexts()[:3]...) {
			if got, want := More(sum, s), slowJoin(sum, slowSum(s), len(s)); got != want {
				t.Errorf("More(%x, %.20q): %x, not %x", sum, s, got, want)
			}
		}
	}
}

// P3.2
func TestJoin(t *testing.T) {
	for _, x := range []struct {
		a, b uint32
		n    int
		want uint32
	}{
		{0x12400c3, 0x630063, 1, 0x24a0126},
		{0, 0, 0, 0},
		{0, 0, math.MinInt, 0},
		{0, 0x24a0126, math.MaxInt, 0x24a0126},
		{0xffffffff, 0xffffffff, 7, 0},
		{0xffff, 0, 1, 0}, // a first part of the modulus is none
		{1, 0, -1, 0xfffe0001},
		{1, 0, -65535, 1},
		{1, 0, -65536, 0xfffe0001},
		{2, 0, -1, 0xfffd0002},
		{1, 0, 65535, 1},
		{1, 0, 65536, 0x10001},
		{0xfffefffe, 0xfffefffe, 65534, 0xfffefffd}, // the greatest parts: 65534 * 65534 is 1 more than a multiple
	} {
		if got := Join(x.a, x.b, x.n); got != x.want {
			t.Errorf("Join(%x, %x, %d): %x, not %x", x.a, x.b, x.n, got, x.want)
		}
	}
	for _, a := range sums() {
		for _, b := range sums() {
			for _, n := range counts() {
				if got, want := Join(a, b, n), slowJoin(a, b, n); got != want {
					t.Fatalf("Join(%x, %x, %d): %x, not %x", a, b, n, got, want)
				}
			}
		}
	}
}

// P3.3
func TestHex(t *testing.T) {
	for _, x := range []struct {
		sum  uint32
		want string
	}{
		{0, "00000000"},
		{0x24a0126, "024a0126"},
		{0x610061, "00610061"},
		{0xffffffff, "ffffffff"}, // as it is, not modulo anything
		{0xffff, "0000ffff"},
		{0x01234567, "01234567"},
		{0x89abcdef, "89abcdef"},
		{0x80000000, "80000000"},
		{1, "00000001"},
		{10, "0000000a"},
	} {
		if got := Hex(x.sum); got != x.want {
			t.Errorf("Hex(%x): %q", x.sum, got)
		}
	}
	const digits = "0123456789abcdef"
	for place := range 8 {
		for d := range uint32(16) {
			want := strings.Repeat("0", 7-place) + digits[d:d+1] + strings.Repeat("0", place)
			if got := Hex(d << (4 * place)); got != want {
				t.Errorf("Hex(%x): %q, not %q", d<<(4*place), got, want)
			}
		}
	}
}

// P3.4
func TestTwoTextsOneBehindTheOther(t *testing.T) {
	texts := samples.Texts("\x00a\xff", 4)
	for _, a := range texts {
		for _, b := range texts {
			checkCut(t, a+b, len(a))
		}
	}
	for _, s := range longTexts() {
		for _, at := range []int{0, 1, 100, len(s) / 2, len(s) - 1, len(s)} {
			checkCut(t, s, at)
		}
	}
}

// checkCut tells where a text's sum is not that of its two pieces.
func checkCut(t *testing.T, s string, at int) {
	t.Helper()
	front, back := s[:at], s[at:]
	if got := More(Sum(front), back); got != Sum(s) {
		t.Errorf("More of %d bytes and %d: %x, not %x", len(front), len(back), got, Sum(s))
	}
	if got := Join(Sum(front), Sum(back), len(back)); got != Sum(s) {
		t.Errorf("Join of %d bytes and %d: %x, not %x", len(front), len(back), got, Sum(s))
	}
}

// P3.4
func TestAnotherByteIsAnotherSum(t *testing.T) {
	for _, s := range append(samples.Texts("\x00\xfe", 3), "abc", "\n\x00\xff", strings.Repeat("\xff", 257), strings.Repeat("ab", 130)) {
		for i := range len(s) {
			for b := range 256 {
				checkOtherByte(t, s, i, byte(b))
			}
		}
	}
	long := strings.Repeat("\x01", 65536)
	for _, i := range []int{0, 1, 2, 65534, 65535} { // at 1 the second part stays what it is
		checkOtherByte(t, long, i, 0)
		checkOtherByte(t, long, i, 255)
	}
}

// checkOtherByte tells where another byte in a text doesn't make its sum another one as it should.
func checkOtherByte(t *testing.T, s string, i int, b byte) {
	t.Helper()
	if s[i] == b {
		return
	}
	bytes := []byte(s)
	bytes[i] = b
	was, is := Sum(s), Sum(string(bytes))
	more := int64(b) - int64(s[i])
	first := big.NewInt(int64(was%65536) + more)
	second := big.NewInt(int64(was/65536) + more*int64(len(s)-i))
	if is == was || is != numberOf(first, second) {
		t.Errorf("%.20q, with %d at %d: %x became %x, not %x", s, b, i, was, is, numberOf(first, second))
	}
}

// P3.4
func TestBytes0AtTheFrontLeaveTheSum(t *testing.T) {
	for _, s := range samples.Texts("\x00a\xff", 4) {
		for _, n := range []int{1, 2, 100, 65535, 65536} {
			if got := Sum(strings.Repeat("\x00", n) + s); got != Sum(s) {
				t.Errorf("%d bytes 0 and %q: %x, not %x", n, s, got, Sum(s))
			}
		}
	}
}
