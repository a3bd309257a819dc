package domain

import (
	"math/rand"
	"slices"
	"strings"
	"testing"
	"unsafe"

	"shortcut/api"
	"shortcut/fold"
	"shortcut/puny"
)

// noNameHas: the chapter's 'Words', byte for byte.
const noNameHas = "\x00\x01\x02\x03\x04\x05\x06\x07\x08\x09\x0A\x0B\x0C\x0D\x0E\x0F" +
	"\x10\x11\x12\x13\x14\x15\x16\x17\x18\x19\x1A\x1B\x1C\x1D\x1E\x1F" +
	" \x7F#/:<>?@[\\]^|%"

// checkName holds ASCII of b against want, and ASCII of that against itself.
func checkName(t *testing.T, b, want string) {
	t.Helper()
	if s, e := ASCII([]byte(b)); s != want || e != api.OK {
		t.Errorf("ASCII(%q): %q, %d, not %q", b, s, e, want)
	}
	if s, e := ASCII([]byte(want)); s != want || e != api.OK {
		t.Errorf("ASCII(%q), its own result: %q, %d", want, s, e)
	}
}

func checkNone(t *testing.T, b string) {
	t.Helper()
	if s, e := ASCII([]byte(b)); s != "" || e != api.ErrHost {
		t.Errorf("ASCII(%q): %q, %d, not ErrHost", b, s, e)
	}
}

// encoded tells what a label with a code point above 127 is written as.
func encoded(t *testing.T, l ...rune) string {
	t.Helper()
	s, e := puny.Encode(l)
	if e != api.OK {
		t.Fatalf("puny.Encode(%x): %d", l, e)
	}
	return "xn--" + s
}

// P6.1: names

func TestOrdinaryNames(t *testing.T) {
	for b, want := range map[string]string{
		"a":                    "a",
		"0":                    "0",
		"-":                    "-",
		"example.com":          "example.com",
		"www.Example.COM":      "www.example.com",
		"a.b.c.d.e":            "a.b.c.d.e",
		"127.0.0.1":            "127.0.0.1",
		"BÜCHER.de":            "xn--bcher-kva.de",
		"bücher.de":            "xn--bcher-kva.de",
		"de.bücher.Ü":          "de.xn--bcher-kva.xn--tda",
		"münchen.bücher":       "xn--mnchen-3ya.xn--bcher-kva",
		"mañana.com":           "xn--maana-pta.com",
		"straße.de":            "xn--strae-oqa.de",
		"中国":                   "xn--fiqs8s",
		"香港":                   "xn--j6w193g",
		"テスト":                  "xn--zckzah",
		"рф":                   "xn--p1ai",
		"РФ":                   "xn--p1ai",
		"مصر":                  "xn--wgbh1c",
		"\U00010000":           "xn--2n7c",
		"a_b":                  "a_b",
		"!\"$&'()*+,;=_`{}~":   "!\"$&'()*+,;=_`{}~",
		"ü!\"$&'()*+,;=_`{}~-": "xn--!\"$&'()*+,;=_`{}~--l6b",
	} {
		checkName(t, b, want)
	}
}

func TestMaxText(t *testing.T) {
	const shy = "\u00AD"
	for plain := range 6 {
		for more := range 4 {
			if plain+more == 0 {
				continue
			}
			name := strings.Repeat("a", plain+more)
			b := strings.Repeat(shy, (api.MaxText-plain)/len(shy)) + name
			switch {
			case len(b) > api.MaxText:
				checkNone(t, b)
			default:
				checkName(t, b, name)
			}
		}
	}
	filled := strings.Repeat(shy, api.MaxText/2-1)
	checkName(t, filled+"ab", "ab")
	checkNone(t, filled+"abc")
	checkName(t, "a"+filled+"b", "ab")
	checkNone(t, "a"+filled+"b.")
	for _, size := range []int{api.MaxText + 1, api.MaxText + 2, 1000, 1 << 16, 1 << 20} {
		for _, fill := range []string{"a", ".", "a.", shy, "ü", "\xFF", "\x00"} {
			checkNone(t, strings.Repeat(fill, size)[:size])
			checkNone(t, "a"+strings.Repeat(fill, size))
		}
	}
	// More than MaxText bytes of a name that would be short enough.
	checkNone(t, strings.Repeat(shy, api.MaxText)+"a")
}

func TestNoUTF8(t *testing.T) {
	for _, none := range []string{"\x80", "\xBF", "\xC0\x80", "\xC1\xBF", "\xC3", "\xE0\x80\x80", "\xE3\x80", "\xED\xA0\x80", "\xED\xBF\xBF", "\xF0\x9F\x98", "\xF4\x90\x80\x80", "\xF5", "\xFE", "\xFF", "\uFFFD"} {
		for _, name := range []string{"", "a", "ü", "a.b", "xn--bcher-kva", "ab.", "。"} {
			checkNone(t, none+name)
			checkNone(t, name+none)
			checkNone(t, "x"+none+name)
			checkNone(t, name+none+"x")
			checkNone(t, "x."+none+"."+name)
		}
	}
	checkName(t, "\uFFFC", encoded(t, 0xFFFC))
	checkName(t, "\uFFFE", encoded(t, 0xFFFE))
}

func TestBytesThatNoNameHas(t *testing.T) {
	for x := range 128 {
		s := string([]byte{byte(x)})
		switch {
		case strings.Contains(noNameHas, s):
			checkNoneAround(t, s)
		case x == '.':
		default:
			small := strings.ToLower(s)
			checkName(t, s, small)
			checkName(t, "a"+s+"b."+s, "a"+small+"b."+small)
		}
	}
	if len(noNameHas) != 33+1+13 {
		t.Errorf("%d bytes that no name has", len(noNameHas))
	}
}

func TestCodePointsThatBecomeBytesThatNoNameHas(t *testing.T) {
	for x := '!'; x <= '~'; x++ {
		wide := string(x + 0xFEE0)
		switch {
		case strings.ContainsRune(noNameHas, x):
			checkNoneAround(t, wide)
		case x == '.':
			checkName(t, "a"+wide+"b", "a.b")
		default:
			checkName(t, wide, strings.ToLower(string(x)))
		}
	}
}

// checkNoneAround tries s alone, at both ends and in the midst, of plain labels and of ones that are encoded.
func checkNoneAround(t *testing.T, s string) {
	t.Helper()
	checkNone(t, s)
	checkNone(t, s+s)
	for _, name := range []string{"a", "ab.cd", "ü", "büc.her", "xn--bcher-kva", "a.b."} {
		checkNone(t, s+name)
		checkNone(t, name+s)
		checkNone(t, s+"."+name)
		checkNone(t, "x."+s+"."+name)
		checkNone(t, name+s+name)
		checkNone(t, "x"+s+name)
	}
	checkNone(t, "xn--b"+s+"cher-kva")
	checkNone(t, "xn--bcher"+s+"-kva")
	checkNone(t, "xn--bcher-k"+s+"va")
}

// A label is looked at as what it stands for, and as what it is: a sign below 128 that no name has stands in both.
func TestEncodedLabelWithByteThatNoNameHas(t *testing.T) {
	for _, x := range noNameHas {
		checkNone(t, encoded(t, 0xFC, x))
		checkNone(t, encoded(t, x, 0xFC, 'a'))
	}
	checkName(t, encoded(t, 0xFC, '!'), encoded(t, 0xFC, '!'))
}

func TestFullStops(t *testing.T) {
	for _, stop := range []string{".", "\u3002", "\uFF0E", "\uFF61"} {
		for n := 1; n < 8; n++ {
			checkNone(t, strings.Repeat(stop, n))
		}
		for plain, want := range map[string]string{"a": "a", "Ü": "xn--tda", "xn--tda": "xn--tda"} {
			checkName(t, plain+stop, want+".")
			checkName(t, plain+stop+plain, want+"."+want)
			checkName(t, plain+stop+plain+stop, want+"."+want+".")
			checkName(t, plain+"."+plain+stop+plain, want+"."+want+"."+want)
			checkNone(t, stop+plain)
			checkNone(t, stop+plain+stop)
			checkNone(t, stop+stop+plain)
			checkNone(t, plain+stop+stop)
			checkNone(t, plain+"."+stop)
			checkNone(t, plain+stop+".")
			checkNone(t, plain+stop+stop+stop)
			checkNone(t, plain+stop+stop+plain)
			checkNone(t, plain+stop+plain+stop+stop)
			checkNone(t, plain+stop+plain+stop+stop+plain)
		}
	}
	// Ones that look like a full stop, and are none.
	for _, r := range []rune{0x2024, 0x3001, 0xFE52, 0xFF64, 0x0701} {
		checkName(t, "a"+string(r)+"b", encoded(t, 'a', r, 'b'))
	}
}

func TestNoBytes(t *testing.T) {
	checkNone(t, "")
	if s, e := ASCII(nil); s != "" || e != api.ErrHost {
		t.Errorf("ASCII(nil): %q, %d", s, e)
	}
	if s, e := ASCII([]byte{}); s != "" || e != api.ErrHost {
		t.Errorf("ASCII of an empty list: %q, %d", s, e)
	}
}

func TestLettersLargeAndSmall(t *testing.T) {
	for x := 'A'; x <= 'Z'; x++ {
		small := string(x + 32)
		for _, b := range []string{string(x), small, string(x + 0xFEE0), string(x + 32 + 0xFEE0)} {
			checkName(t, b, small)
			checkName(t, "0"+b+"-."+b, "0"+small+"-."+small)
			checkName(t, "ü"+b, encoded(t, 0xFC, x+32))
		}
	}
	for large, small := range map[rune]rune{0xC0: 0xE0, 0xDE: 0xFE, 0x391: 0x3B1, 0x3A9: 0x3C9, 0x410: 0x430, 0x42F: 0x44F, 0x400: 0x450, 0x40F: 0x45F, 0x100: 0x101, 0x12E: 0x12F} {
		want := encoded(t, 'a', small, 'z')
		checkName(t, "A"+string(large)+"Z", want)
		checkName(t, "a"+string(small)+"z", want)
	}
	// Those that no fold makes others.
	for _, r := range []rune{0xD7, 0xDF, 0x130, 0x3A2, 0x1E9E, 0x212A} {
		checkName(t, "a"+string(r), encoded(t, 'a', r))
	}
}

func TestLeftOut(t *testing.T) {
	for _, r := range []rune{0xAD, 0x200B, 0x200C, 0x200D, 0x2060, 0xFEFF} {
		s := string(r)
		checkName(t, "a"+s, "a")
		checkName(t, s+"a", "a")
		checkName(t, s+"a"+s+s+"b"+s+"."+s+"c"+s, "ab.c")
		checkName(t, "b"+s+"ü"+s+"cher", "xn--bcher-kva")
		checkName(t, "x"+s+"n--bcher-kva", "xn--bcher-kva")
		checkName(t, "a."+s, "a.")
		checkName(t, "a"+s+".", "a.")
		checkNone(t, s)
		checkNone(t, s+s)
		checkNone(t, s+".")
		checkNone(t, s+"."+s)
		checkNone(t, s+".a")
		checkNone(t, "a."+s+".b")
		checkNone(t, "a."+s+".")
		checkNone(t, "x"+s+"n--abc-")
	}
}

// P6.1: sizes

func TestMaxLabel(t *testing.T) {
	for size := 1; size <= 70; size++ {
		for _, around := range []struct{ front, back string }{{"", ""}, {"a.", ""}, {"", ".a"}, {"", "."}, {"a.", ".b."}} {
			label := strings.Repeat("a", size)
			b := around.front + label + around.back
			if size > api.MaxLabel {
				checkNone(t, b)
				continue
			}
			checkName(t, b, b)
		}
	}
	// What is left out does not count, nor how many bytes a wide letter had.
	full := strings.Repeat("a", api.MaxLabel)
	checkName(t, "\u00AD"+full+"\u200B", full)
	checkName(t, strings.Repeat("\uFF41", api.MaxLabel), full)
	checkNone(t, strings.Repeat("\uFF41", api.MaxLabel+1))
}

func TestMaxLabelOfEncodedOnes(t *testing.T) {
	for _, other := range []rune{0x80, 0xFC, 0x20AC, 0x10FFFF} {
		sizes := map[int]bool{}
		for plain := range 80 {
			l := append(slices.Repeat([]rune{'a'}, plain), other)
			s, e := puny.Encode(l)
			size := len("xn--") + len(s)
			if e != api.OK || size > api.MaxLabel {
				checkNone(t, string(l))
				checkNone(t, "a."+string(l)+".b")
				checkNone(t, "xn--"+s)
				sizes[size] = true
				continue
			}
			sizes[size] = true
			checkName(t, string(l), "xn--"+s)
			checkName(t, "a."+string(l)+".", "a.xn--"+s+".")
		}
		if !sizes[api.MaxLabel] || !sizes[api.MaxLabel+1] {
			t.Errorf("%#x: not both sizes about MaxLabel", other)
		}
	}
	// As many code points as a label may have bytes, or fewer, are too many where they need more bytes.
	for n := 1; n <= 130; n++ {
		b := strings.Repeat("\u0080", n)
		if n+len("xn--") <= api.MaxLabel {
			checkName(t, b, "xn--"+strings.Repeat("a", n))
			continue
		}
		checkNone(t, b)
	}
}

// namesOf tells names of so many bytes, the last full stop aside.
func namesOf(size int) []string {
	full := strings.Repeat("a", api.MaxLabel) + "."
	long := strings.Repeat(full, 3)
	short := strings.Repeat("a.", size)[:size]
	return []string{long + strings.Repeat("b", size-len(long)), strings.TrimSuffix(short, ".") + strings.Repeat("c", 1-size%2)}
}

func TestMaxHost(t *testing.T) {
	for size := api.MaxHost - 5; size <= api.MaxHost+2; size++ {
		for _, name := range namesOf(size) {
			if len(name) != size {
				t.Fatalf("%q: %d bytes", name, len(name))
			}
			if size > api.MaxHost {
				checkNone(t, name)
				checkNone(t, name+".")
				continue
			}
			checkName(t, name, name)
			checkName(t, name+".", name+".")
			checkNone(t, name+"..")
		}
	}
	// Less than MaxHost bytes that become more, and more that become less.
	many := strings.Repeat("ü.", 31) // 93 bytes as they come, 248 as they are told
	told := strings.Repeat("xn--tda.", 31)
	checkName(t, many+"aaaaa", told+"aaaaa")
	checkName(t, many+"aaaaa.", told+"aaaaa.")
	checkNone(t, many+"aaaaaa")
	checkNone(t, many+"aaaaaa.")
	checkNone(t, many+"ü")
	checkName(t, strings.Repeat("\uFF41", 60)+"."+strings.Repeat("\uFF42", 60), strings.Repeat("a", 60)+"."+strings.Repeat("b", 60))
}

// P6.1: labels that begin with xn--

func TestMarkOfSomeLabel(t *testing.T) {
	for _, s := range []string{"xn--bcher-kva", "xn--tda", "xn--fiqs8s", "xn--p1ai", "xn--a", "xn--aa", "xn--ba", "xn--a-ba", "xn-----ba", "xn----a", "xn--bcher", "xn--abc", "xn--bcher-fsa", "xn--bcher-9999a", "xn--hb9b", "xn--0y0c", "xn--dn32g", "xn--a-pc4g", "xn--a-so7g", "xn--a-h023p"} {
		checkName(t, s, s)
		checkName(t, strings.ToUpper(s), s)
		checkName(t, "XN"+s[2:], s)
		checkName(t, "xN"+s[2:], s)
		checkName(t, "Xn"+s[2:], s)
		checkName(t, "\uFF38\uFF4E"+s[2:], s)
		checkName(t, s+".", s+".")
		checkName(t, "a."+strings.ToUpper(s)+".b", "a."+s+".b")
	}
	checkName(t, "XN--BCHER-KVA.DE", "xn--bcher-kva.de")
}

func TestMarkOfNone(t *testing.T) {
	for _, s := range []string{
		"xn--",                             // nothing behind it
		"xn--a-", "xn--abc-", "xn--bcher-", // signs below 128 alone
		"xn---", "xn----", "xn-----", "xn--a--", "xn---a-",
		"xn---a", "xn---ba", "xn---kva", // a delimiter ahead of all
		"xn--b", "xn--z", "xn--9", "xn--bcher-k", "xn--bcher-kv", // digits that end too soon
		"xn--bcher-k!a", "xn--bcher-k_a", "xn--tda!", "xn--!", "xn--tda~", // bytes that are no digits
		"xn--bcher-kva-", "xn--tda-",
		"xn--ib9b", "xn--zy0c", "xn--en32g", "xn--a-rc4g", "xn--a-qo7g", "xn--a-j023p", "xn--99999999", "xn--a-99999999a", // code points that are none: U+D800, U+DFFF, U+110000, beyond
	} {
		checkNone(t, s)
		checkNone(t, strings.ToUpper(s))
		checkNone(t, "\uFF38\uFF2E"+s[2:])
		checkNone(t, s+".")
		checkNone(t, "a."+s)
		checkNone(t, s+".xn--bcher-kva")
		checkNone(t, "bücher."+s+".de")
	}
}

// Only that very beginning is the mark, and only of a label that has no code point above 127.
func TestAlmostTheMark(t *testing.T) {
	for _, s := range []string{"x", "xn", "xn-", "xn-a", "xn-abc", "xn-.-", "xn_--a", "xm--a", "yn--a", "axn--", "a-xn--abc", "-xn--", "ab--cd", "nx--a", "xn-a-", "xn.--abc"} {
		checkName(t, s, s)
		checkName(t, strings.ToUpper(s), s)
	}
	for _, b := range []string{"xn--ü", "xn--abc-ü", "xn--bcher-kvaü", "xn--üxn--", "xn--\u0080"} {
		want := encoded(t, []rune(b)...)
		checkName(t, b, want)
		checkName(t, strings.ToUpper(b[:4])+b[4:], want)
	}
}

// Each code point alone, and beside others: what stands for one that a fold makes another, or leaves out, stands for none.
func TestMarkOfEachCodePoint(t *testing.T) {
	for r := rune(0x80); r <= 0x10FFFF; r++ {
		if r >= 0xD800 && r <= 0xDFFF {
			continue
		}
		s := encoded(t, r)
		out, keep := fold.Map(r)
		want, wantErr := s, api.OK
		if !keep || out != r {
			want, wantErr = "", api.ErrHost
		}
		if got, e := ASCII([]byte(s)); got != want || e != wantErr {
			t.Fatalf("ASCII(%q), of %#x: %q, %d", s, r, got, e)
		}
	}
	for _, r := range []rune{0xAD, 0x200B, 0x200D, 0x2060, 0xFEFF, 0xFF01, 0xFF0E, 0xFF21, 0xFF41, 0xFF5E, 0x3002, 0xFF61, 0xC0, 0xDC, 0xDE, 0x391, 0x3A9, 0x400, 0x40F, 0x410, 0x42F, 0x100, 0x12E} {
		checkNone(t, encoded(t, r))
		checkNone(t, encoded(t, 'a', r))
		checkNone(t, encoded(t, r, 'a'))
		checkNone(t, encoded(t, 0xFC, r, 0x20AC))
		checkNone(t, "a."+encoded(t, 'a', r, 'b')+".b")
	}
	checkNone(t, "xn--wca")     // U+00DC
	checkNone(t, "xn--example") // U+03A9 is among them
}

// U+FFFD may not come in, but a label that stands for it is what some label is encoded as.
func TestMarkOfTheLostOne(t *testing.T) {
	checkName(t, encoded(t, 0xFFFD), encoded(t, 0xFFFD))
	checkName(t, encoded(t, 'a', 0xFFFD), encoded(t, 'a', 0xFFFD))
}

// shortEncodings tells all that labels with a code point above 127, which a fold leaves, are encoded as in three bytes at the most, found by encoding them.
func shortEncodings() map[string]bool {
	out := make(map[string]bool)
	add := func(l ...rune) {
		s, _ := puny.Encode(l)
		if len(s) <= 3 && slices.Equal(fold.Text(l), l) {
			out[s] = true
		}
	}
	for r := rune(0x80); r < 0x10000; r++ {
		add(r)
	}
	for a := rune(0x80); a < 0x200; a++ {
		for b := rune(0); b < 0x800; b++ {
			add(a, b)
			add(b, a)
		}
	}
	for a := rune(0x80); a < 0xB0; a++ {
		for b := rune(0x80); b < 0xB0; b++ {
			for c := rune(0x80); c < 0xB0; c++ {
				add(a, b, c)
			}
		}
	}
	return out
}

func TestMarkOfAllShortOnes(t *testing.T) {
	const signs = "abcdefghijklmnopqrstuvwxyz0123456789-_"
	some := shortEncodings()
	check := func(s string) {
		if some[s] {
			checkName(t, "xn--"+s, "xn--"+s)
		} else {
			checkNone(t, "xn--"+s)
		}
	}
	for _, x := range signs {
		check(string(x))
		for _, y := range signs {
			check(string(x) + string(y))
			for _, z := range signs {
				check(string(x) + string(y) + string(z))
			}
		}
	}
	if len(some) < 1000 {
		t.Errorf("only %d labels are encoded as so little", len(some))
	}
}

// P6.1: Labels

func TestLabels(t *testing.T) {
	for s, want := range map[string][]string{
		"":          {""},
		"a":         {"a"},
		"abc":       {"abc"},
		".":         {"", ""},
		"..":        {"", "", ""},
		"...":       {"", "", "", ""},
		"a.":        {"a", ""},
		".a":        {"", "a"},
		"a.b":       {"a", "b"},
		"a..b":      {"a", "", "b"},
		"a.b.":      {"a", "b", ""},
		"a..":       {"a", "", ""},
		"A.b C.ü":   {"A", "b C", "ü"},
		"xn--.\xFF": {"xn--", "\xFF"},
		"a。b":       {"a。b"}, // another full stop is none here
	} {
		got := Labels(s)
		if !slices.Equal(got, want) {
			t.Errorf("Labels(%q): %q, not %q", s, got, want)
		}
		if strings.Join(got, ".") != s {
			t.Errorf("Labels(%q): %q, of which it isn't made", s, got)
		}
	}
	long := strings.Repeat("ab.", 100000)
	if got := Labels(long); len(got) != 100001 || got[0] != "ab" || got[99999] != "ab" || got[100000] != "" {
		t.Errorf("Labels of many: %d", len(got))
	}
}

func TestLabelsOfNames(t *testing.T) {
	s, _ := ASCII([]byte("WWW.BÜCHER。de."))
	if got := Labels(s); !slices.Equal(got, []string{"www", "xn--bcher-kva", "de", ""}) {
		t.Errorf("Labels(%q): %q", s, got)
	}
}

// R2, R3, R4

func TestHandedInStays(t *testing.T) {
	for _, b := range []string{"", "a", "WWW.Example.Com", "BÜCHER.de", "a。b．c.", "\u00AD\u00AD", "xn--BCHER-kva", "a b", "\xFF\xFE", strings.Repeat("A", 64), strings.Repeat("Ü.", 133)} {
		memory := append([]byte(b), slices.Repeat([]byte("Z."), 300)...)
		before := slices.Clone(memory)
		first, e := ASCII(memory[:len(b)])
		if !slices.Equal(memory, before) {
			t.Errorf("ASCII(%q) changed what it was handed: %q", b, memory)
		}
		kept := strings.Clone(first)
		again, eAgain := ASCII(memory[:len(b):len(b)])
		if again != first || eAgain != e {
			t.Errorf("ASCII(%q): %q, %d, then %q, %d", b, first, e, again, eAgain)
		}
		for i := range memory {
			memory[i] = 'q'
		}
		if first != kept {
			t.Errorf("ASCII(%q) told memory that it was handed", b)
		}
	}
}

func TestLabelsAreNew(t *testing.T) {
	s := strings.Clone("www.example.com.")
	from := uintptr(unsafe.Pointer(unsafe.StringData(s)))
	for _, label := range append(Labels(s), Labels(s[:3])...) {
		at := uintptr(unsafe.Pointer(unsafe.StringData(label)))
		if label != "" && at >= from && at < from+uintptr(len(s)) {
			t.Errorf("%q is memory of what was handed in", label)
		}
	}
	first, second := Labels(s), Labels(s)
	first[0] = "other"
	_ = append(first[:1], "other")
	if !slices.Equal(second, []string{"www", "example", "com", ""}) || !slices.Equal(Labels(s), second) {
		t.Errorf("two answers share memory: %q", second)
	}
}

// What follows

// checkAny holds what is true of each answer.
func checkAny(t *testing.T, b []byte) {
	t.Helper()
	s, e := ASCII(b)
	if e != api.OK {
		if s != "" || e != api.ErrHost {
			t.Errorf("ASCII(%q): %q, %d", b, s, e)
		}
		return
	}
	if again, e := ASCII([]byte(s)); again != s || e != api.OK {
		t.Errorf("ASCII(%q): %q, but of that %q, %d", b, s, again, e)
	}
	if strings.ContainsAny(s, noNameHas) || len(strings.TrimSuffix(s, ".")) > api.MaxHost || len(b) > api.MaxText {
		t.Errorf("ASCII(%q): %q", b, s)
	}
	for i, label := range Labels(s) {
		if len(label) > api.MaxLabel || label == "" && (i == 0 || !strings.HasSuffix(s, ".") || i != strings.Count(s, ".")) {
			t.Errorf("ASCII(%q): %q, with the label %q", b, s, label)
		}
	}
	for i := range len(s) {
		if s[i] > 127 || s[i] >= 'A' && s[i] <= 'Z' {
			t.Errorf("ASCII(%q): %q", b, s)
		}
	}
}

func TestOfItsOwnResult(t *testing.T) {
	parts := []string{"a", "B", "z9", "-", "--", "xn--", "XN--", "xn--tda", "bcher-kva", "ba", "kva", ".", ".", "。", "．", "ü", "Ü", "ß", "Ω", "Я", "中", "\U0001F600", "\u00AD", "\u200B", "Ａ", "％", "\uFFFD", "\xFF", " ", strings.Repeat("m", 30), strings.Repeat("é", 12)}
	rnd := rand.New(rand.NewSource(6))
	fine := 0
	for range 200000 {
		var b []byte
		for range 1 + rnd.Intn(12) {
			n := len(parts)
			if rnd.Intn(3) > 0 {
				n -= 7 // without those that make most names none
			}
			b = append(b, parts[rnd.Intn(n)]...)
		}
		checkAny(t, b)
		if _, e := ASCII(b); e == api.OK {
			fine++
		}
	}
	if fine < 10000 {
		t.Errorf("only %d of these were names", fine)
	}
}

func TestOfAnyBytes(t *testing.T) {
	rnd := rand.New(rand.NewSource(66))
	for range 50000 {
		b := make([]byte, rnd.Intn(24))
		for i := range b {
			b[i] = byte(rnd.Intn(256))
		}
		checkAny(t, b)
	}
	for a := range 256 {
		for b := range 256 {
			checkAny(t, []byte{byte(a), byte(b)})
			checkAny(t, []byte{'x', byte(a), '.', byte(b)})
		}
	}
}

func FuzzASCII(f *testing.F) {
	for _, s := range []string{"", "a.com", "BÜCHER.de", "a。b．c｡d", "xn--bcher-kva.", "XN--", "xn--ü", "\u00ADa", "a\xFF", strings.Repeat("ü", 30)} {
		f.Add([]byte(s))
	}
	f.Fuzz(func(t *testing.T, b []byte) { checkAny(t, b) })
}
