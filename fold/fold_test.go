package fold

import (
	"encoding/binary"
	"math"
	"slices"
	"testing"
	"unicode"
)

const spareRune = 0x5A5A

// withSpare hands out content with spare room behind it, and the whole memory, so that a test can see both.
func withSpare(content []rune) (l, whole []rune) {
	whole = append(slices.Clone(content), slices.Repeat([]rune{spareRune}, 16)...)
	return whole[:len(content)], whole
}

func leftOutOnes() []rune {
	return []rune{0x00AD, 0x200B, 0x200C, 0x200D, 0x2060, 0xFEFF}
}

// noCodePoints: numbers that are none; a wrap-round, or a cut to fewer bits, would make some of them a letter, a wide sign or one that is left out.
func noCodePoints() []rune {
	return []rune{
		0xD800, 0xDBFF, 0xDC00, 0xDFFF,
		0x110000, 0x110041, 0x7FFFFF41, math.MaxInt32,
		-1, -5, -32, -'A', -0xAD, -0x100, -0xFEE0, -0xFEE0 + 'A', -0x10000 + 'A', -0x10000 + 0xAD,
		math.MinInt32, math.MinInt32 + 'A', math.MinInt32 + 0xAD, math.MinInt32 + 0xFF21,
	}
}

// wantMap tells what the chapter asks, by Go's own small letters within the ranges that it names.
func wantMap(r rune) (out rune, keep bool) {
	if slices.Contains(leftOutOnes(), r) {
		return 0, false
	}
	if r == 0x3002 || r == 0xFF61 {
		return '.', true
	}
	if r >= 0xFF01 && r <= 0xFF5E {
		r -= 0xFEE0
	}
	for _, x := range [][2]rune{{'A', 'Z'}, {0xC0, 0xDE}, {0x100, 0x12F}, {0x391, 0x3A9}, {0x400, 0x42F}} {
		if r >= x[0] && r <= x[1] {
			return unicode.ToLower(r), true
		}
	}
	return r, true
}

func checkMap(t *testing.T, r rune) {
	t.Helper()
	want, wantKeep := wantMap(r)
	if got, keep := Map(r); got != want || keep != wantKeep {
		t.Fatalf("Map(%#x): %#x, %t, not %#x, %t", r, got, keep, want, wantKeep)
	}
}

// P4.1

func TestMapChanges(t *testing.T) {
	for r, want := range map[rune]rune{
		'A': 'a', 'B': 'b', 'M': 'm', 'Y': 'y', 'Z': 'z',
		0xC0: 0xE0, 0xC1: 0xE1, 0xD6: 0xF6, 0xD8: 0xF8, 0xDC: 0xFC, 0xDD: 0xFD, 0xDE: 0xFE,
		0x100: 0x101, 0x102: 0x103, 0x10C: 0x10D, 0x12C: 0x12D, 0x12E: 0x12F,
		0x391: 0x3B1, 0x392: 0x3B2, 0x3A1: 0x3C1, 0x3A3: 0x3C3, 0x3A8: 0x3C8, 0x3A9: 0x3C9,
		0x400: 0x450, 0x401: 0x451, 0x40E: 0x45E, 0x40F: 0x45F,
		0x410: 0x430, 0x411: 0x431, 0x42E: 0x44E, 0x42F: 0x44F,
		0x3002: '.', 0xFF61: '.',
		0xFF01: '!', 0xFF02: '"', 0xFF0E: '.', 0xFF0F: '/', 0xFF10: '0', 0xFF19: '9',
		0xFF20: '@', 0xFF21: 'a', 0xFF22: 'b', 0xFF39: 'y', 0xFF3A: 'z', 0xFF3B: '[',
		0xFF40: '`', 0xFF41: 'a', 0xFF5A: 'z', 0xFF5B: '{', 0xFF5D: '}', 0xFF5E: '~',
	} {
		if got, keep := Map(r); got != want || !keep {
			t.Errorf("Map(%#x): %#x, %t, not %#x", r, got, keep, want)
		}
	}
}

func TestMapStays(t *testing.T) {
	for _, r := range append([]rune{
		0, '\n', ' ', '-', '.', '0', '9', '@', '[', '`', 'a', 'z', '{', '~', 0x7F,
		0x80, 0xAC, 0xAE, 0xBF, 0xD7, 0xDF, 0xE0, 0xF7, 0xFE, 0xFF,
		0x101, 0x103, 0x12D, 0x12F, 0x130, 0x131, 0x132, 0x139, 0x178,
		0x386, 0x390, 0x3A2, 0x3AA, 0x3AB, 0x3B1, 0x3C2, 0x3C9,
		0x3FF, 0x430, 0x44F, 0x450, 0x45F, 0x460,
		0x1E00, 0x200A, 0x200E, 0x205F, 0x2061, 0x212A, 0x3001, 0x3003,
		0xFEE0, 0xFEFE, 0xFF00, 0xFF5F, 0xFF60, 0xFF62, 0xFFFD, 0xFFFF,
		0xD7FF, 0xE000, 0x10000, 0x10041, 0x10400, 0x1FF21, 0xE0041, 0x10FFFF,
	}, noCodePoints()...) {
		if got, keep := Map(r); got != r || !keep {
			t.Errorf("Map(%#x): %#x, %t", r, got, keep)
		}
	}
}

func TestMapLeavesOut(t *testing.T) {
	for _, r := range leftOutOnes() {
		if got, keep := Map(r); got != 0 || keep {
			t.Errorf("Map(%#x): %#x, %t", r, got, keep)
		}
	}
}

// The number nought stays: it is not one that is left out, though it is answered the same beside its yes.
func TestMapKeepsNought(t *testing.T) {
	if got, keep := Map(0); got != 0 || !keep {
		t.Errorf("Map(0): %#x, %t", got, keep)
	}
	if got := Text([]rune{0, 0xAD, 0}); !slices.Equal(got, []rune{0, 0}) {
		t.Errorf("Text: %x", got)
	}
}

func TestMapOfEachCodePoint(t *testing.T) {
	for r := rune(-0x20000); r <= 0x120000; r++ {
		checkMap(t, r)
	}
	for _, r := range noCodePoints() {
		checkMap(t, r)
	}
	for bit := range 32 {
		for _, r := range []rune{'A', 0xAD, 0xC0, 0x100, 0x391, 0x400, 0x410, 0x3002, 0xFF21} {
			checkMap(t, r^rune(int32(uint32(1)<<bit)))
		}
	}
}

func TestMapOfEachWideOne(t *testing.T) {
	for r := rune(0xFF01); r <= 0xFF5E; r++ {
		want, wantKeep := Map(r - 0xFEE0)
		if got, keep := Map(r); got != want || keep != wantKeep {
			t.Errorf("Map(%#x): %#x, %t, not %#x, %t", r, got, keep, want, wantKeep)
		}
	}
}

// How many there are of each kind, counted by hand, so that wantMap itself is held against something.
func TestHowManyChange(t *testing.T) {
	changed, out := 0, 0
	for r := rune(-0x1000); r <= 0x110FFF; r++ {
		switch x, keep := Map(r); {
		case !keep:
			out++
		case x != r:
			changed++
		}
	}
	const letters = 26 + 30 + 24 + 24 + 16 + 32
	const wide = 94
	const stops = 2
	if changed != letters+wide+stops || out != 6 {
		t.Errorf("%d change, %d are left out", changed, out)
	}
}

func textCases() []struct{ l, want []rune } {
	return []struct{ l, want []rune }{
		{nil, nil},
		{[]rune{}, nil},
		{[]rune("A"), []rune("a")},
		{[]rune("abc"), []rune("abc")},
		{[]rune("Www.EXAMPLE.Com"), []rune("www.example.com")},
		{[]rune("B\u00DCCHER.de"), []rune("b\u00FCcher.de")},
		{[]rune("\uFF37\uFF57\uFF37\uFF0EA\u3002b\uFF61C"), []rune("www.a.b.c")},
		{[]rune("\u041C\u0401\u0434"), []rune("\u043C\u0451\u0434")},
		{[]rune("\u0391\u03A2\u03A9"), []rune("\u03B1\u03A2\u03C9")},
		{[]rune("\u0100\u0101\u012E\u012F"), []rune("\u0101\u0101\u012F\u012F")},

		// what is left out: ahead, between, behind, alone
		{[]rune("\u00ADA"), []rune("a")},
		{[]rune("A\u200BB"), []rune("ab")},
		{[]rune("A\uFEFF"), []rune("a")},
		{[]rune("\u200C\u200DA\u2060\u2060\u00D7\uFEFF"), []rune("a\u00D7")},
		{[]rune{0xAD}, nil},
		{leftOutOnes(), nil},
		{slices.Repeat([]rune{0x200D}, 1000), nil},

		// the same one again is told again, in its place
		{[]rune("AaAZz"), []rune("aaazz")},
		{[]rune("zyxCBA"), []rune("zyxcba")},

		{[]rune{-1, 'A', 0x110000, 0xD800, math.MinInt32, math.MaxInt32, 0xFFFD}, []rune{-1, 'a', 0x110000, 0xD800, math.MinInt32, math.MaxInt32, 0xFFFD}},
	}
}

func TestText(t *testing.T) {
	for _, x := range textCases() {
		l, whole := withSpare(x.l)
		if got := Text(l); !slices.Equal(got, x.want) {
			t.Errorf("Text(%x): %x, not %x", x.l, got, x.want)
		}
		if _, before := withSpare(x.l); !slices.Equal(whole, before) {
			t.Errorf("Text(%x) changed what it was handed: %x", x.l, whole)
		}
	}
}

func TestTextIsEachOnesMap(t *testing.T) {
	var l, want []rune
	for r := rune(-0x1000); r <= 0x110FFF; r++ {
		l = append(l, r)
		if x, keep := wantMap(r); keep {
			want = append(want, x)
		}
	}
	if !slices.Equal(Text(l), want) {
		t.Error("all of them, one behind the other")
	}
	slices.Reverse(l)
	slices.Reverse(want)
	if !slices.Equal(Text(l), want) {
		t.Error("all of them, the last first")
	}
}

// R3: an answer is memory of its own, also of a text of which all stays.
func TestAnswersAreApart(t *testing.T) {
	for _, text := range []string{"abcd", "ABcd", "A\u00ADbc", "\u00AD\u00ADab"} {
		l, whole := withSpare([]rune(text))
		before := slices.Clone(whole)
		one, two := Text(l), Text(l)
		want := slices.Clone(one)
		for i := range one {
			one[i] = 'x'
		}
		full := one[:cap(one)]
		for i := range full {
			full[i] = 'y'
		}
		if !slices.Equal(whole, before) {
			t.Errorf("Text(%q) handed out what it was handed: %x", text, whole)
		}
		for i := range whole {
			whole[i] = 'z'
		}
		if !slices.Equal(two, want) {
			t.Errorf("Text(%q) shares what it answers: %x", text, two)
		}
		if got := Text([]rune(text)); !slices.Equal(got, want) {
			t.Errorf("Text(%q), asked again: %x", text, got)
		}
	}
}

// What follows

func TestWhatWasMappedStays(t *testing.T) {
	check := func(r rune) {
		x, keep := Map(r)
		if !keep {
			return
		}
		if again, keep := Map(x); again != x || !keep {
			t.Fatalf("Map(%#x): %#x, whose Map is %#x, %t", r, x, again, keep)
		}
	}
	for r := rune(-0x20000); r <= 0x120000; r++ {
		check(r)
	}
	for _, r := range noCodePoints() {
		check(r)
	}
	for _, x := range textCases() {
		once := Text(x.l)
		if again := Text(once); !slices.Equal(again, once) {
			t.Errorf("Text(%x): %x, whose Text is %x", x.l, once, again)
		}
	}
}

// runesOf reads b as numbers of four bytes, so that those that are no code points come up too.
func runesOf(b []byte) (l []rune) {
	for ; len(b) >= 4; b = b[4:] {
		l = append(l, rune(binary.BigEndian.Uint32(b)))
	}
	return l
}

func FuzzText(f *testing.F) {
	for _, x := range textCases() {
		var b []byte
		for _, r := range x.l {
			b = binary.BigEndian.AppendUint32(b, uint32(r))
		}
		f.Add(b)
	}
	f.Fuzz(func(t *testing.T, b []byte) {
		l := append(runesOf(b), []rune(string(b))...)
		var want []rune
		for _, r := range l {
			checkMap(t, r)
			if x, keep := wantMap(r); keep {
				want = append(want, x)
			}
		}
		before := slices.Clone(l)
		got := Text(l)
		if !slices.Equal(got, want) || !slices.Equal(l, before) {
			t.Errorf("Text(%x): %x, not %x", before, got, want)
		}
		if again := Text(got); !slices.Equal(again, got) {
			t.Errorf("Text(%x): %x, whose Text is %x", before, got, again)
		}
	})
}
