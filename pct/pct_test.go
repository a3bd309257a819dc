package pct

import (
	"bytes"
	"fmt"
	"math"
	"net/url"
	"slices"
	"strings"
	"testing"

	"shortcut/api"
)

const spareByte = 0xA5

// withSpare hands out content with spare room behind it, and the whole memory, so that a test can see both.
func withSpare(content string) (b, whole []byte) {
	whole = append([]byte(content), bytes.Repeat([]byte{spareByte}, 16)...)
	return whole[:len(content)], whole
}

func setNumbers() []int {
	return []int{api.SetControl, api.SetFragment, api.SetQuery, api.SetSpecial, api.SetPath, api.SetUser, api.SetForm}
}

func noSetNumbers() []int {
	return []int{-1, -6, api.SetForm + 1, 8, 255, 256, 256 + api.SetForm, math.MaxInt, math.MinInt}
}

// members tells, for each of the 256 bytes, whether it is in a set: written out byte by byte of what may be printed.
func members(s int) (in [256]bool) {
	printed := map[int]string{
		api.SetControl:  "",
		api.SetFragment: " \"<>`",
		api.SetQuery:    " \"#<>",
		api.SetSpecial:  " \"#<>'",
		api.SetPath:     " \"#<>?^`{}",
		api.SetUser:     " \"#<>?^`{}/:;=@[\\]|",
		api.SetForm:     " !\"#$%&'()+,/:;<=>?@[\\]^`{|}~",
	}
	text, ok := printed[s]
	if !ok {
		return in
	}
	for b := range in {
		in[b] = b < 32 || b > 126 || strings.ContainsRune(text, rune(b))
	}
	return in
}

func allBytes() []byte {
	out := make([]byte, 256)
	for b := range out {
		out[b] = byte(b)
	}
	return out
}

// P3.1

func TestIn(t *testing.T) {
	for _, s := range append(setNumbers(), noSetNumbers()...) {
		want := members(s)
		for b := range 256 {
			if got := In(s, byte(b)); got != want[b] {
				t.Errorf("In(%d, %#x): %t", s, b, got)
			}
		}
	}
}

// How many each set has, counted by hand, so that members itself is held against something.
func TestSizesOfSets(t *testing.T) {
	const control = 32 + 129
	for s, want := range map[int]int{
		api.SetControl:  control,
		api.SetFragment: control + 5,
		api.SetQuery:    control + 5,
		api.SetSpecial:  control + 6,
		api.SetPath:     control + 10,
		api.SetUser:     control + 19,
		api.SetForm:     256 - 26 - 26 - 10 - 4,
	} {
		got := 0
		for b := range 256 {
			if In(s, byte(b)) {
				got++
			}
		}
		if got != want {
			t.Errorf("set %d: %d bytes, not %d", s, got, want)
		}
	}
}

func TestEncodeEachByte(t *testing.T) {
	for _, s := range append(setNumbers(), noSetNumbers()...) {
		in := members(s)
		for b := range 256 {
			want := string([]byte{byte(b)})
			if in[b] {
				want = fmt.Sprintf("%%%02X", b)
			}
			if s == api.SetForm && b == ' ' {
				want = "+"
			}
			if got := Encode(s, []byte{byte(b)}); got != want {
				t.Errorf("Encode(%d, %#x): %q, not %q", s, b, got, want)
			}
		}
	}
}

func TestEncode(t *testing.T) {
	for _, x := range []struct {
		s       int
		b, want string
	}{
		{api.SetPath, "a b", "a%20b"}, // the chapter's example
		{api.SetPath, "", ""},
		{api.SetForm, "", ""},
		{api.SetControl, "a b\x1f\x20\x7e\x7f\x80\xff", "a b%1F ~%7F%80%FF"},
		{api.SetFragment, "a \"<>`#b", "a%20%22%3C%3E%60#b"},
		{api.SetQuery, "a=1&b='#`", "a=1&b='%23`"},
		{api.SetSpecial, "a=1&b='#`", "a=1&b=%27%23`"},
		{api.SetPath, "/a?b^c`d{e}'", "/a%3Fb%5Ec%60d%7Be%7D'"},
		{api.SetUser, "a/b:c;d=e@f[g\\h]i|j", "a%2Fb%3Ac%3Bd%3De%40f%5Bg%5Ch%5Di%7Cj"},
		{api.SetForm, "a b+c~*-._%", "a+b%2Bc%7E*-._%25"},
		{api.SetForm, "  ", "++"},
		{api.SetForm, " + ", "+%2B+"},
		{api.SetQuery, " + ", "%20+%20"},
		{api.SetUser, "%20%", "%20%"}, // a per cent sign is in Form alone
		{api.SetForm, "%20%", "%2520%25"},
		{api.SetPath, "\xc3\xa4", "%C3%A4"},
		{api.SetPath, "\xed\xa0\x80", "%ED%A0%80"}, // bytes that are no code point
		{api.SetControl, "\x00\x0a\xab\xba", "%00%0A%AB%BA"},
		{-1, "\x00 \xff%+", "\x00 \xff%+"},
		{api.SetForm + 1, "\x00 \xff%+", "\x00 \xff%+"},
	} {
		b, whole := withSpare(x.b)
		if got := Encode(x.s, b); got != x.want {
			t.Errorf("Encode(%d, %q): %q, not %q", x.s, x.b, got, x.want)
		}
		if _, before := withSpare(x.b); !bytes.Equal(whole, before) {
			t.Errorf("Encode(%d, %q) changed what it was handed: %x", x.s, x.b, whole)
		}
	}
	for _, s := range append(setNumbers(), noSetNumbers()...) {
		if got := Encode(s, nil); got != "" {
			t.Errorf("of nothing: %q", got)
		}
	}
}

func TestEncodeForm(t *testing.T) {
	// Go's escaping of a question differs from Form in these two alone.
	want := strings.NewReplacer("%2A", "*", "~", "%7E").Replace(url.QueryEscape(string(allBytes())))
	if got := Encode(api.SetForm, allBytes()); got != want {
		t.Errorf("%q, not %q", got, want)
	}
}

func decodeCases() map[string]string {
	return map[string]string{
		"":          "",
		"a%20b":     "a b",
		"abc":       "abc",
		"+":         "+",
		"a+b%2Bc":   "a+b+c",
		"%41%6a%6A": "Ajj",
		"%00":       "\x00",
		"%ff%FF%fF": "\xff\xff\xff",
		"%c3%A4":    "\xc3\xa4",
		"\xc3\xa4":  "\xc3\xa4",
		"\xff\x00":  "\xff\x00", // a text may be bytes that are no code points

		// with no digit behind it, with one, with two
		"%":      "%",
		"a%":     "a%",
		"%g":     "%g",
		"%4":     "%4",
		"a%4":    "a%4",
		"%4g":    "%4g",
		"%g4":    "%g4",
		"%gg":    "%gg",
		"%41":    "A",
		"a%41":   "aA",
		"%414":   "A4",
		"%41%":   "A%",
		"%41%4":  "A%4",
		"%4%41":  "%4A",
		"%%41":   "%A",
		"%%%41":  "%%A",
		"%%":     "%%",
		"%%%":    "%%%",
		"%4%":    "%4%",
		"% 41":   "% 41",
		"%+1":    "%+1",
		"%-1":    "%-1",
		"%0x41":  "%0x41",
		"%x41":   "%x41",
		"%u0041": "%u0041",

		// what was found is not looked at again
		"%2541":   "%41",
		"%25%34":  "%4",
		"%2525":   "%25",
		"%254%31": "%41",
		"%%34%31": "%41",

		// digits of other scripts are none
		"%\xef\xbc\x94\xef\xbc\x91": "%\xef\xbc\x94\xef\xbc\x91",
		"%\xd9\xa4\xd9\xa1":         "%\xd9\xa4\xd9\xa1",
		"%4\xd9\xa1":                "%4\xd9\xa1",
	}
}

func TestDecode(t *testing.T) {
	for s, want := range decodeCases() {
		if got := Decode(s); string(got) != want {
			t.Errorf("Decode(%q): %q, not %q", s, got, want)
		}
	}
}

// value tells what a digit stands for, and -1 of what is none: by its place in a text, not by sums.
func value(b int) int {
	if k := strings.IndexByte("0123456789abcdef", byte(b)); k >= 0 {
		return k
	}
	return strings.IndexByte("0123456789ABCDEF", byte(b))
}

func TestDecodeEachTwoBytes(t *testing.T) {
	for x := range 256 {
		for y := range 256 {
			s := string([]byte{'a', '%', byte(x), byte(y), 'z'})
			want := []byte(s)
			if value(x) >= 0 && value(y) >= 0 {
				want = []byte{'a', byte(value(x)*16 + value(y)), 'z'}
			}
			if got := Decode(s); !bytes.Equal(got, want) {
				t.Fatalf("Decode(%q): %q, not %q", s, got, want)
			}
			if got := Decode(s[:3]); string(got) != s[:3] {
				t.Fatalf("Decode(%q): %q", s[:3], got)
			}
		}
	}
}

// R3: each answer is memory of its own.
func TestAnswersAreApart(t *testing.T) {
	for _, s := range []string{"abcd", "a%20b%", "%41%42"} {
		want := string(Decode(s))
		one, two := Decode(s), Decode(s)
		for i := range one {
			one[i] = 'x'
		}
		one = append(one[:1], 'y', 'z')
		if string(two) != want || string(Decode(s)) != want {
			t.Errorf("Decode(%q): %q, %q", s, two, Decode(s))
		}
	}
	b := []byte("ab c")
	for _, s := range []int{api.SetControl, api.SetPath, api.SetForm, -1} {
		got := Encode(s, b)
		want := strings.Clone(got)
		for i := range b {
			b[i] = 'x'
		}
		if got != want {
			t.Errorf("Encode(%d) kept what it was handed: %q", s, got)
		}
		b = []byte("ab c")
	}
}

// What follows

// wantBack tells what is decoded of what was encoded: the same, but that a space of Form stays the plus sign it became.
func wantBack(s int, b []byte) []byte {
	if s == api.SetForm {
		return bytes.ReplaceAll(b, []byte(" "), []byte("+"))
	}
	return b
}

func TestWhatIsEncodedIsDecoded(t *testing.T) {
	all := slices.DeleteFunc(allBytes(), func(x byte) bool { return x == '%' })
	for _, s := range append(setNumbers(), noSetNumbers()...) {
		if got := Decode(Encode(s, all)); !bytes.Equal(got, wantBack(s, all)) {
			t.Errorf("set %d: %q", s, got)
		}
	}
	// Form writes the per cent sign with one, so that it comes back there.
	if got := Decode(Encode(api.SetForm, []byte("%41%"))); string(got) != "%41%" {
		t.Errorf("Form: %q", got)
	}
}

func FuzzBack(f *testing.F) {
	for s := range decodeCases() {
		f.Add(api.SetUser, []byte(s))
		f.Add(api.SetForm, []byte(s))
	}
	f.Fuzz(func(t *testing.T, s int, b []byte) {
		if got, err := url.PathUnescape(string(b)); err == nil && string(Decode(string(b))) != got {
			t.Errorf("Decode(%q): %q, not %q", b, Decode(string(b)), got)
		}
		if s != api.SetForm {
			b = bytes.ReplaceAll(b, []byte("%"), nil)
		}
		text := Encode(s, b)
		for _, x := range []byte(text) {
			if x != '%' && x != '+' && In(s, x) {
				t.Errorf("Encode(%d, %q): %q", s, b, text)
			}
		}
		if got := Decode(text); !bytes.Equal(got, wantBack(s, b)) {
			t.Errorf("set %d, %q: %q, and back %q", s, b, text, got)
		}
	})
}
