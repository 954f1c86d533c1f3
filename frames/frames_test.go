package frames

import (
	"errors"
	"math"
	"slices"
	"strconv"
	"strings"
	"testing"

	"inkhorn/api"
	"inkhorn/samples"
)

// slowFrame is a payload's frame, by what the document says of texts, of sums and of frames, all in one.
func slowFrame(payload string) string {
	first, second := 0, 0
	for i := range len(payload) {
		first = (first + int(payload[i])) % 65535
		second = (second + first) % 65535
	}
	sum := "0000000" + strconv.FormatInt(int64(second*65536+first), 16)
	return strconv.Itoa(len(payload)) + ":" + payload + sum[len(sum)-8:] + "\n"
}

// slowNext looks through all that may be a payload for one whose frame the text goes on as.
func slowNext(s string, at int) (payload string, next int, ok bool) {
	for from := at; from < len(s); from++ {
		for end := from; end <= len(s); end++ {
			if f := slowFrame(s[from:end]); strings.HasPrefix(s[at:], f) {
				return s[from:end], at + len(f), true
			}
		}
	}
	return "", 0, false
}

// framed is payloads' frames, one behind the other.
func framed(t *testing.T, payloads []string) string {
	t.Helper()
	var b strings.Builder
	for _, p := range payloads {
		f, e := Frame(p)
		if e != api.OK {
			t.Fatalf("Frame of %d bytes: %v", len(p), e)
		}
		b.WriteString(f)
	}
	return b.String()
}

// payloads are some whose own bytes look like a frame, or like parts of one.
func payloads() []string {
	return []string{
		"", "a", "\n", "\x00", "\xff", ":", "0:", "1:", "0:00000000\n", "1:a00610061\n", "00000000\n", "00000000", "\u00e9",
		"12:", "a\nb\n", strings.Repeat("\xff", 257), strings.Repeat("x", 1000),
	}
}

// checkNone tells where a frame stands, or something is told beside that none does.
func checkNone(t *testing.T, s string, at int) {
	t.Helper()
	if p, next, ok := Next(s, at); p != "" || next != 0 || ok {
		t.Errorf("Next(%.40q, %d): %.20q, %d, %v", s, at, p, next, ok)
	}
}

// checkWhole tells where others are found than these payloads, or where they end elsewhere.
func checkWhole(t *testing.T, s string, want []string, wantEnd int) {
	t.Helper()
	if got, end := Whole(s); !slices.Equal(got, want) || end != wantEnd {
		t.Errorf("Whole(%.60q): %.60q, %d, not %.60q, %d", s, got, end, want, wantEnd)
	}
}

// P4.1
func TestFrame(t *testing.T) {
	for _, x := range []struct{ payload, want string }{
		{"a", "1:a00610061\n"},
		{"", "0:00000000\n"},
		{"abc", "3:abc024a0126\n"},
		{"\x00", "1:\x0000000000\n"},
		{"\n", "1:\n000a000a\n"},
		{"\xff", "1:\xff00ff00ff\n"},
		{"\u00e9", "2:\u00e9022f016c\n"},
		{"0:00000000\n", "11:0:00000000\n0c9e01f4\n"},
	} {
		if got, e := Frame(x.payload); got != x.want || e != api.OK {
			t.Errorf("Frame(%q): %q, %v", x.payload, got, e)
		}
	}
	for _, p := range append(samples.Texts("\x000:\n\xff", 5), payloads()...) {
		if got, e := Frame(p); got != slowFrame(p) || e != api.OK {
			t.Errorf("Frame(%.20q): %.40q, %v", p, got, e)
		}
	}
}

// P4.1
func TestFrameOfTheLongest(t *testing.T) {
	longest := strings.Repeat("\xfeb\n\x00", 1<<20)
	if got, e := Frame(longest); got != slowFrame(longest) || e != api.OK {
		t.Errorf("Frame of %d bytes: %d bytes, %v", len(longest), len(got), e)
	}
	for _, more := range []string{"x", "\x00", longest} {
		if got, e := Frame(longest + more); got != "" || e != api.ErrLong {
			t.Errorf("Frame of %d bytes: %d bytes, %v", len(longest+more), len(got), e)
		}
	}
}

// P4.2
func TestNext(t *testing.T) {
	for _, x := range []struct {
		s       string
		at      int
		payload string
		next    int
	}{
		{"1:a00610061\n", 0, "a", 12},
		{"0:00000000\n", 0, "", 11},
		{"11:a00610061\n", 1, "a", 13}, // what is ahead of the place doesn't count
		{"x0:00000000\n", 1, "", 12},
		{"1:a00610061\n0:00000000\n", 12, "", 23},
		{"0:00000000\n\n", 0, "", 11},
		{"0:00000000\n0", 0, "", 11},
		{"11:0:00000000\n0c9e01f4\n", 0, "0:00000000\n", 23},
		{"11:0:00000000\n0c9e01f4\n", 3, "", 14}, // a frame stands in a payload, too
	} {
		if p, next, ok := Next(x.s, x.at); p != x.payload || next != x.next || !ok {
			t.Errorf("Next(%q, %d): %q, %d, %v", x.s, x.at, p, next, ok)
		}
	}
}

// P4.2
func TestNextOfNone(t *testing.T) {
	for _, x := range []struct {
		s  string
		at int
	}{
		{"1:a00610061\n", 1}, {"1:a00610061\n", 11}, {"1:a00610061\n", 12},
		{"1:a00610061\n", -1}, {"1:a00610061\n", 13}, {"1:a00610061\n", math.MinInt}, {"1:a00610061\n", math.MaxInt},
		{"", 0}, {"", 1}, {"", -1}, {"\n", 0}, {"0:", 0}, {"0:\n", 0}, {"1:a", 0}, {"1:a\n", 0},
		{"0:00000000", 0}, {"0:0000000\n", 0}, {"0:000000000\n", 0}, {"0: 00000000\n", 0}, {"0:00000000 \n", 0},
		{"0:00000000\r\n", 0}, {"0:00000000\x00", 0}, {"0:00000000:", 0}, {"0:00000000\v", 0},
		{"00:00000000\n", 0}, {"01:a00610061\n", 0}, {"+1:a00610061\n", 0}, {"-1:a00610061\n", 0}, {":a00610061\n", 0},
		{" 1:a00610061\n", 0}, {"1;a00610061\n", 0}, {"2:a00610061\n", 0}, {"0:a00610061\n", 0}, {"13:a00610061\n", 0},
		{"1:b00610061\n", 0}, {"1:a00620061\n", 0}, {"1:a00610062\n", 0}, {"1:a10610061\n", 0}, {"1:a00000000\n", 0},
		{"1:a0610061\n", 0}, {"1:a610061\n", 0}, {"1:a00610061", 0},
		{"1:\n000A000A\n", 0}, {"1:\xff00FF00FF\n", 0}, // the digits are small ones
		{"2:ba012400c3\n", 0}, {"1:\x01ffff0001\n", 0}, {"0:ffffffff\n", 0}, {"0:0000ffff\n", 0}, // as much, modulo 65535
		{"9223372036854775807:00000000\n", 0}, {"18446744073709551616:00000000\n", 0},
	} {
		checkNone(t, x.s, x.at)
	}
}

// P4.2: what is longer than a payload may be stands in no frame, though its sum is right.
func TestNextOfTheLongest(t *testing.T) {
	longest := strings.Repeat("\xfeb\n\x00", 1<<20)
	f := slowFrame(longest)
	if p, next, ok := Next(f+"x", 0); p != longest || next != len(f) || !ok {
		t.Errorf("%d bytes, %d, %v", len(p), next, ok)
	}
	checkWhole(t, f+"x", []string{longest}, len(f))
	tooLong := slowFrame(longest + "x")
	checkNone(t, tooLong, 0)
	checkWhole(t, slowFrame("a")+tooLong+slowFrame("b"), []string{"a"}, 12)
}

// P4.2: whatever is put in, left out or laid in the place of a byte, just what is a frame stands.
func TestNextOfWhatIsNearlyAFrame(t *testing.T) {
	const bytes = "0123a:\n\x00\xff-F "
	for _, p := range []string{"", "a", "0", "12", "\n:"} {
		whole := slowFrame(p)
		for i := range len(whole) + 1 {
			for b := range len(bytes) {
				checkPlaces(t, whole[:i]+bytes[b:b+1]+whole[i:])
				if i < len(whole) {
					checkPlaces(t, whole[:i]+bytes[b:b+1]+whole[i+1:])
				}
			}
			if i < len(whole) {
				checkPlaces(t, whole[:i]+whole[i+1:])
			}
		}
	}
	for _, s := range samples.Texts("01:\n", 5) {
		checkPlaces(t, s)
		checkPlaces(t, s+"0:00000000\n")
		checkPlaces(t, "1:000300030"+s)
	}
}

// checkPlaces tells where in a text Next is not what slowNext is.
func checkPlaces(t *testing.T, s string) {
	t.Helper()
	for at := range len(s) + 1 {
		p, next, ok := Next(s, at)
		if wantP, wantNext, wantOK := slowNext(s, at); p != wantP || next != wantNext || ok != wantOK {
			t.Fatalf("Next(%q, %d): %q, %d, %v, not %q, %d, %v", s, at, p, next, ok, wantP, wantNext, wantOK)
		}
	}
}

// P4.2
func TestWhole(t *testing.T) {
	for _, x := range []struct {
		s    string
		want []string
		end  int
	}{
		{"", nil, 0},
		{"1:a00610061\n0:00000000\n0:0", []string{"a", ""}, 23},
		{"1:a00610061\n0:00000000\n", []string{"a", ""}, 23},
		{"0:00000000\n1:a00610061\n", []string{"", "a"}, 23},
		{"0:00000000\n\n0:00000000\n", []string{""}, 11}, // one behind the other, with nothing between
		{"\n0:00000000\n", nil, 0},
		{"x1:a00610061\n", nil, 0},
		{"1:a00610062\n0:00000000\n", nil, 0},
		{"11:0:00000000\n0c9e01f4\n0:00000000\n", []string{"0:00000000\n", ""}, 34}, // one in a payload is not one of them
		{strings.Repeat("0:00000000\n", 5000), make([]string, 5000), 55000},
	} {
		checkWhole(t, x.s, x.want, x.end)
	}
}

// P4.3
func TestWhatWasFramedIsFound(t *testing.T) {
	for _, l := range samples.Lists(payloads(), 3) {
		s := framed(t, l)
		checkWhole(t, s, l, len(s))
	}
}

// P4.3
func TestOfWhatIsCutOffTheWholeFramesAreFound(t *testing.T) {
	some := []string{"", "a", "\n", "0:00000000\n", "12:1:a00610061\nx"}
	for _, l := range samples.Lists(some, 4) {
		s := framed(t, l)
		whole, end := 0, 0
		for n := range len(s) + 1 {
			if whole < len(l) && n >= end+len(slowFrame(l[whole])) {
				end += len(slowFrame(l[whole]))
				whole++
			}
			checkWhole(t, s[:n], l[:whole], end)
		}
	}
}

// P4.3
func TestAnotherByteInAPayload(t *testing.T) {
	for _, p := range payloads() {
		for _, ahead := range [][]string{nil, {"a"}, {"", "x\n"}} {
			front := framed(t, ahead)
			back := framed(t, []string{"b", ""})
			start := len(strconv.Itoa(len(p))) + len(":")
			for i := range len(p) {
				f := []byte(slowFrame(p))
				for _, b := range []byte{p[i] + 1, p[i] - 1, p[i] ^ 128, 0, 255, '0', ':', '\n'} {
					f[start+i] = b
					if b != p[i] {
						checkWhole(t, front+string(f)+back, ahead, len(front))
					}
				}
			}
		}
	}
	for b := range 256 {
		if b != 'b' {
			checkWhole(t, "1:a00610061\n3:a"+string([]byte{byte(b)})+"c024a0126\n0:00000000\n", []string{"a"}, 12)
		}
	}
}

// The way: what a frame lacks is told from other errors, even where it is wrapped, by errors.As.
func TestWhatAFrameLacks(t *testing.T) {
	for _, x := range []struct {
		s    string
		want lack
	}{
		{"", lackPayload},
		{"2:a", lackPayload},
		{slowFrame(strings.Repeat("x", api.MaxFrame+1)), lackRoom},
		{"1:a", lackSum},
		{"1:a00610062\n", lackSum},
		{"1:a00610061", lackEnd},
		{"1:a00610061 ", lackEnd},
	} {
		_, _, err := read(x.s, 0)
		var lacking lack
		if !errors.As(err, &lacking) || lacking != x.want || err.Error() != "frames: no "+string(x.want) {
			t.Errorf("read(%.20q): %v", x.s, err)
		}
	}
	if _, _, err := read("0:00000000\n", 0); err != nil {
		t.Errorf("%v", err)
	}
}

// R4
func TestListsAreOfTheirOwn(t *testing.T) {
	const s = "1:a00610061\n0:00000000\n"
	first, _ := Whole(s)
	clear(first)
	_ = append(first[:1], "y")
	checkWhole(t, s, []string{"a", ""}, len(s))
}
