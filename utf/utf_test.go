package utf

import (
	"bytes"
	"math"
	"slices"
	"testing"
	"unicode/utf8"
)

const spareByte, spareRune = 0xA5, 0x5A5A

// bytesWithSpare hands out content with spare room behind it, and the whole memory, so that a test can see both.
func bytesWithSpare(content string) (b, whole []byte) {
	whole = append([]byte(content), bytes.Repeat([]byte{spareByte}, 16)...)
	return whole[:len(content)], whole
}

func runesWithSpare(content []rune) (l, whole []rune) {
	whole = append(slices.Clone(content), slices.Repeat([]rune{spareRune}, 16)...)
	return whole[:len(content)], whole
}

// cases: bytes, what they are decoded to, and whether no byte is given up.
func cases() []struct {
	b     string
	want  []rune
	valid bool
} {
	const lost = 0xFFFD
	return []struct {
		b     string
		want  []rune
		valid bool
	}{
		{"", nil, true},
		{"\xc3\xa4", []rune{0xE4}, true}, // the chapter's example
		{"abc", []rune{'a', 'b', 'c'}, true},
		{"a\xc3\xa4\xe2\x82\xac\xf0\x9f\x98\x80z", []rune{'a', 0xE4, 0x20AC, 0x1F600, 'z'}, true},

		// the first and the last code point of each length
		{"\x00", []rune{0}, true},
		{"\x7f", []rune{0x7F}, true},
		{"\xc2\x80", []rune{0x80}, true},
		{"\xdf\xbf", []rune{0x7FF}, true},
		{"\xe0\xa0\x80", []rune{0x800}, true},
		{"\xef\xbf\xbf", []rune{0xFFFF}, true},
		{"\xf0\x90\x80\x80", []rune{0x10000}, true},
		{"\xf4\x8f\xbf\xbf", []rune{0x10FFFF}, true},

		// round the halves, and above the last
		{"\xed\x9f\xbf", []rune{0xD7FF}, true},
		{"\xed\xa0\x80", []rune{lost, lost, lost}, false}, // U+D800
		{"\xed\xaf\xbf", []rune{lost, lost, lost}, false}, // U+DBFF
		{"\xed\xb0\x80", []rune{lost, lost, lost}, false}, // U+DC00
		{"\xed\xbf\xbf", []rune{lost, lost, lost}, false}, // U+DFFF
		{"\xee\x80\x80", []rune{0xE000}, true},
		{"\xed\xa0\xbd\xed\xb8\x80", []rune{lost, lost, lost, lost, lost, lost}, false}, // a pair of halves
		{"\xf4\x90\x80\x80", []rune{lost, lost, lost, lost}, false},                     // U+110000
		{"\xf5\x80\x80\x80", []rune{lost, lost, lost, lost}, false},
		{"\xf7\xbf\xbf\xbf", []rune{lost, lost, lost, lost}, false},

		// U+FFFD itself is no byte given up
		{"\xef\xbf\xbd", []rune{lost}, true},
		{"a\xef\xbf\xbdb", []rune{'a', lost, 'b'}, true},

		// longer than need be
		{"\xc0\x80", []rune{lost, lost}, false},
		{"\xc1\xbf", []rune{lost, lost}, false},
		{"\xe0\x80\x80", []rune{lost, lost, lost}, false},
		{"\xe0\x9f\xbf", []rune{lost, lost, lost}, false},
		{"\xf0\x80\x80\x80", []rune{lost, lost, lost, lost}, false},
		{"\xf0\x8f\xbf\xbf", []rune{lost, lost, lost, lost}, false},
		{"\xf0\x82\x82\xac", []rune{lost, lost, lost, lost}, false},
		{"\xf8\x88\x80\x80\x80", []rune{lost, lost, lost, lost, lost}, false},
		{"\xfc\x84\x80\x80\x80\x80", []rune{lost, lost, lost, lost, lost, lost}, false},

		// ending too soon
		{"\xc3", []rune{lost}, false},
		{"\xe2\x82", []rune{lost, lost}, false},
		{"\xe2", []rune{lost}, false},
		{"\xf0\x9f\x98", []rune{lost, lost, lost}, false},
		{"\xf0\x9f", []rune{lost, lost}, false},
		{"\xf0", []rune{lost}, false},
		{"ab\xc3", []rune{'a', 'b', lost}, false},

		// broken off by another: only the bytes in front of it are given up
		{"\xc3a", []rune{lost, 'a'}, false},
		{"\xc3\xc3\xa4", []rune{lost, 0xE4}, false},
		{"\xe2\x82a", []rune{lost, lost, 'a'}, false},
		{"\xe2a\xac", []rune{lost, 'a', lost}, false},
		{"\xe2\x82\xc3\xa4", []rune{lost, lost, 0xE4}, false},
		{"\xf0\x9f\x98a", []rune{lost, lost, lost, 'a'}, false},
		{"\xf0\x9f\xe2\x82\xac", []rune{lost, lost, 0x20AC}, false},
		{"\xe0\x80\xc3\xa4", []rune{lost, lost, 0xE4}, false},

		// bytes that begin nothing
		{"\x80", []rune{lost}, false},
		{"\xbf", []rune{lost}, false},
		{"\x80a", []rune{lost, 'a'}, false},
		{"\xc3\xa4\xa4", []rune{0xE4, lost}, false},
		{"\xf8", []rune{lost}, false},
		{"\xfe", []rune{lost}, false},
		{"\xff", []rune{lost}, false},
		{"\xff\xfea", []rune{lost, lost, 'a'}, false},
	}
}

// P2.1

func TestDecode(t *testing.T) {
	for _, x := range cases() {
		b, whole := bytesWithSpare(x.b)
		if got := Decode(b); !slices.Equal(got, x.want) {
			t.Errorf("Decode(%x): %x, not %x", x.b, got, x.want)
		}
		if _, before := bytesWithSpare(x.b); !bytes.Equal(whole, before) {
			t.Errorf("Decode(%x) changed what it was handed: %x", x.b, whole)
		}
	}
	if got := Decode(nil); len(got) != 0 {
		t.Errorf("of nothing: %x", got)
	}
}

func TestValid(t *testing.T) {
	for _, x := range cases() {
		b, whole := bytesWithSpare(x.b)
		if got := Valid(b); got != x.valid {
			t.Errorf("Valid(%x): %t", x.b, got)
		}
		if _, before := bytesWithSpare(x.b); !bytes.Equal(whole, before) {
			t.Errorf("Valid(%x) changed what it was handed: %x", x.b, whole)
		}
	}
	if !Valid(nil) {
		t.Error("of nothing")
	}
}

func TestValidSeesEachPlace(t *testing.T) {
	text := []byte("a\xc3\xa4\xe2\x82\xac\xf0\x9f\x98\x80z")
	for k := range text {
		for _, x := range []byte{0xFF, 0xC0, 0xF5} {
			b := bytes.Clone(text)
			b[k] = x
			if Valid(b) {
				t.Errorf("Valid(%x)", b)
			}
		}
	}
}

func TestEncode(t *testing.T) {
	const lost = "\xef\xbf\xbd"
	for _, x := range []struct {
		l    []rune
		want string
	}{
		{nil, ""},
		{[]rune{}, ""},
		{[]rune{0xE4}, "\xc3\xa4"},
		{[]rune{'a', 0xE4, 0x20AC, 0x1F600, 'z'}, "a\xc3\xa4\xe2\x82\xac\xf0\x9f\x98\x80z"},
		{[]rune{0, 0x7F}, "\x00\x7f"},
		{[]rune{0x80, 0x7FF}, "\xc2\x80\xdf\xbf"},
		{[]rune{0x800, 0xFFFF}, "\xe0\xa0\x80\xef\xbf\xbf"},
		{[]rune{0x10000, 0x10FFFF}, "\xf0\x90\x80\x80\xf4\x8f\xbf\xbf"},
		{[]rune{0xD7FF, 0xE000}, "\xed\x9f\xbf\xee\x80\x80"},
		{[]rune{0xFFFD}, lost},
		{[]rune{0xD800}, lost},
		{[]rune{0xDBFF}, lost},
		{[]rune{0xDC00}, lost},
		{[]rune{0xDFFF}, lost},
		{[]rune{0xD83D, 0xDE00}, lost + lost}, // a pair of halves
		{[]rune{0x110000}, lost},
		{[]rune{math.MaxInt32}, lost},
		{[]rune{-1}, lost},
		{[]rune{-0x80}, lost},
		{[]rune{math.MinInt32}, lost},
		{[]rune{'a', -1, 'b', 0x110000, 'c'}, "a" + lost + "b" + lost + "c"},
	} {
		l, whole := runesWithSpare(x.l)
		if got := Encode(l...); string(got) != x.want {
			t.Errorf("Encode(%x): %x, not %x", x.l, got, x.want)
		}
		if _, before := runesWithSpare(x.l); !slices.Equal(whole, before) {
			t.Errorf("Encode(%x) changed what it was handed: %x", x.l, whole)
		}
	}
	if got := Encode(); len(got) != 0 {
		t.Errorf("of nothing: %x", got)
	}
	if got := Encode('a', 0xE4); string(got) != "a\xc3\xa4" {
		t.Errorf("of two: %x", got)
	}
}

func TestEachCodePoint(t *testing.T) {
	for r := rune(-0x200); r <= 0x110200; r++ {
		want := utf8.AppendRune(nil, r)
		got := Encode(r)
		if !bytes.Equal(got, want) {
			t.Fatalf("Encode(%x): %x, not %x", r, got, want)
		}
		if !Valid(got) {
			t.Fatalf("Valid(%x)", got)
		}
		back := Decode(got)
		if len(back) != 1 || back[0] != r && back[0] != utf8.RuneError || back[0] == utf8.RuneError && r != utf8.RuneError && utf8.ValidRune(r) {
			t.Fatalf("Decode(Encode(%x)): %x", r, back)
		}
	}
}

// edgeBytes: of each kind of byte the first and the last, and those where the kind of what may follow changes.
func edgeBytes() []byte {
	return []byte{0, 'a', 0x7F, 0x80, 0x81, 0x8F, 0x90, 0x9F, 0xA0, 0xBF, 0xC0, 0xC1, 0xC2, 0xDF, 0xE0, 0xE1, 0xEC, 0xED, 0xEE, 0xEF, 0xF0, 0xF1, 0xF3, 0xF4, 0xF5, 0xF7, 0xF8, 0xFB, 0xFC, 0xFE, 0xFF}
}

func checkAgainstGo(t *testing.T, b []byte) {
	t.Helper()
	if got, want := Decode(b), []rune(string(b)); !slices.Equal(got, want) {
		t.Fatalf("Decode(%x): %x, not %x", b, got, want)
	}
	if got, want := Valid(b), utf8.Valid(b); got != want {
		t.Fatalf("Valid(%x): %t", b, got)
	}
}

func TestEachTwoBytes(t *testing.T) {
	for i := range 1 << 16 {
		checkAgainstGo(t, []byte{byte(i >> 8), byte(i)})
	}
}

func TestEdgesOfFourBytes(t *testing.T) {
	edges := edgeBytes()
	for _, x := range edges {
		for _, y := range edges {
			for _, z := range edges {
				checkAgainstGo(t, []byte{x, y, z})
				for _, w := range edges {
					checkAgainstGo(t, []byte{x, y, z, w})
				}
			}
		}
	}
}

func TestDoesNotReadSpareRoom(t *testing.T) {
	whole := []byte("a\xf0\x9f\x98\x80")
	for k := 2; k < len(whole); k++ {
		if b := whole[:k]; Valid(b) {
			t.Errorf("Valid(%x)", b)
		}
		want := append([]rune{'a'}, slices.Repeat([]rune{0xFFFD}, k-1)...)
		if got := Decode(whole[:k]); !slices.Equal(got, want) {
			t.Errorf("Decode(%x): %x", whole[:k], got)
		}
	}
}

// R3: each answer is memory of its own.
func TestAnswersAreApart(t *testing.T) {
	b := []byte("a\xc3\xa4\xff")
	first, second := Decode(b), Decode(b)
	for i := range first {
		first[i] = 'x'
	}
	first = append(first[:1], 'y', 'z')
	if want := []rune{'a', 0xE4, 0xFFFD}; !slices.Equal(second, want) || !slices.Equal(Decode(b), want) {
		t.Errorf("Decode: %x, %x", second, Decode(b))
	}
	l := []rune{'a', 0xE4, -1}
	one, two := Encode(l...), Encode(l...)
	for i := range one {
		one[i] = 'x'
	}
	one = append(one[:1], 'y', 'z')
	if want := "a\xc3\xa4\xef\xbf\xbd"; string(two) != want || string(Encode(l...)) != want {
		t.Errorf("Encode: %x, %x", two, Encode(l...))
	}
}

// What follows

func TestWhatIsEncodedIsDecoded(t *testing.T) {
	var all []rune
	for r := rune(0); r <= 0x10FFFF; r++ {
		if r < 0xD800 || r > 0xDFFF {
			all = append(all, r)
		}
	}
	b := Encode(all...)
	if !Valid(b) || !slices.Equal(Decode(b), all) {
		t.Error("all code points, one behind the other")
	}
	slices.Reverse(all)
	b = Encode(all...)
	if !Valid(b) || !slices.Equal(Decode(b), all) {
		t.Error("all code points, the last first")
	}
}

func FuzzDecode(f *testing.F) {
	for _, x := range cases() {
		f.Add([]byte(x.b))
	}
	f.Fuzz(func(t *testing.T, b []byte) {
		checkAgainstGo(t, b)
		l := Decode(b)
		back := Encode(l...)
		if Valid(b) != bytes.Equal(back, b) {
			t.Errorf("Valid(%x), which is encoded again as %x", b, back)
		}
		if !Valid(back) || !slices.Equal(Decode(back), l) {
			t.Errorf("Encode(%x): %x", l, back)
		}
	})
}
