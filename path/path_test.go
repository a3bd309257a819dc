package path

import (
	"math/rand"
	"slices"
	"strings"
	"testing"
	"unsafe"
)

var both = []bool{true, false}

// ones: each way in which one dot is written.
var ones = []string{".", "%2e", "%2E"}

// twos: each way in which two are.
var twos = []string{"..", ".%2e", ".%2E", "%2e.", "%2E.", "%2e%2e", "%2e%2E", "%2E%2e", "%2E%2E"}

// nearly: texts that look like dots, and are segments as any other.
var nearly = []string{
	"...", "....", ".....", "..%2e", "%2e..", ".%2e.", "%2e%2e%2e", "%2E%2E%2E%2E", ".a", "a.", "a..", "..a", ".a.", "a.b", "%2ea", "a%2e", "%2e%2ea", ".%2ea", "%2e.a", "a%2e%2E",
	"%", "%2", "%2f", "%2F", "%2d", "%2D", "%e2", "%E2", "%22", "%3e", "%3E", "%1e", "%2g", ".%", ".%2", ".%2f", "%2.", "%2f.", "%.", "%.2e", "%2.e", "%2e%", "%2e%2", "%2%2e", "%%2e", "%2e%2f", "%2f%2e", "%252e", "%25%32%65", "%2%65", "%32e", "%2ee", "%2eE", "%02e", "%x2e", "2e", "2E", ".2e", "%u002e", "%2e2e", "%2e2E",
	"~", "-", "_", ",", "*", "..-", "-.", "%c0%ae", "%00", "%2e%00", ".%00", "．", "。", "․", "‥", "…", ".．", "%EF%BC%8E", "%２e", "%2ｅ", "％2e", "\xAE", "\x2F\xAE"[1:], ".\x80",
}

func checkDots(t *testing.T, s string, single, double bool) {
	t.Helper()
	if got := Single(s); got != single {
		t.Errorf("Single(%q): %t", s, got)
	}
	if got := Double(s); got != double {
		t.Errorf("Double(%q): %t", s, got)
	}
}

// checkParse holds Parse of s, from base, against want, and what follows of that.
func checkParse(t *testing.T, s string, special bool, base []string, want ...string) {
	t.Helper()
	l := Parse(s, special, base)
	if !slices.Equal(l, want) {
		t.Errorf("Parse(%q, %t, %q): %q, not %q", s, special, base, l, want)
	}
	if len(base) == 0 {
		checkBack(t, l, special)
	}
}

// checkBoth holds Parse of s against want, special and not.
func checkBoth(t *testing.T, s string, base []string, want ...string) {
	t.Helper()
	for _, special := range both {
		checkParse(t, s, special, base, want...)
	}
}

// checkBack: what is shown of parsed segments, without its first stroke, is parsed as it was.
func checkBack(t *testing.T, l []string, special bool) {
	t.Helper()
	shown := Show(l...)
	behind, ok := strings.CutPrefix(shown, "/")
	if again := Parse(behind, special, nil); !ok || !slices.Equal(again, l) {
		t.Errorf("%q is shown as %q, and parsed (%t) as %q", l, shown, special, again)
	}
}

// checkAny holds all that is asked of s against the references.
func checkAny(t *testing.T, s string, base ...string) {
	t.Helper()
	checkDots(t, s, refDot.MatchString(s), refTwo.MatchString(s))
	for _, special := range both {
		checkParse(t, s, special, base, refParse(s, special, base)...)
		checkParse(t, s, special, nil, refParse(s, special, nil)...)
	}
	checkShow(t, refShow([]string{s}), s)
	checkShow(t, refShow(append([]string{s}, base...)), append([]string{s}, base...)...)
}

func checkShow(t *testing.T, want string, l ...string) {
	t.Helper()
	if got := Show(l...); got != want {
		t.Errorf("Show(%q): %q, not %q", l, got, want)
	}
}

// P10.1: Single and Double

func TestDots(t *testing.T) {
	for _, s := range ones {
		checkDots(t, s, true, false)
	}
	for _, s := range twos {
		checkDots(t, s, false, true)
	}
	if len(twos) != len(ones)*len(ones) {
		t.Errorf("%d ways to write two dots", len(twos))
	}
}

func TestNoDots(t *testing.T) {
	checkDots(t, "", false, false)
	for _, s := range nearly {
		checkDots(t, s, false, false)
	}
	for _, dots := range slices.Concat(ones, twos) {
		for x := range 256 {
			b := string([]byte{byte(x)})
			checkDots(t, b+dots, false, b == "." && slices.Contains(ones, dots))
			checkDots(t, dots+b, false, b == "." && slices.Contains(ones, dots))
		}
		for _, beside := range []string{"/", "\\", " ", "\x00", "\n", "\u00AD", "a", "?", "#"} {
			checkDots(t, beside+dots, false, false)
			checkDots(t, dots+beside, false, false)
			checkDots(t, dots+beside+dots, false, false)
		}
	}
}

// TestChangedDots: each byte of a written dot, changed into each other one.
func TestChangedDots(t *testing.T) {
	for _, s := range slices.Concat(ones, twos) {
		for i := range len(s) {
			for x := range 256 {
				changed := s[:i] + string([]byte{byte(x)}) + s[i+1:]
				checkDots(t, changed, slices.Contains(ones, changed), slices.Contains(twos, changed))
			}
			short := s[:i] + s[i+1:]
			checkDots(t, short, slices.Contains(ones, short), slices.Contains(twos, short))
		}
	}
}

// P10.2: Parse

func TestExample(t *testing.T) {
	checkParse(t, "a/../b", true, nil, "b")
}

func TestOrdinaryPaths(t *testing.T) {
	checkBoth(t, "a", nil, "a")
	checkBoth(t, "a/b/c", nil, "a", "b", "c")
	checkBoth(t, "a/b/", nil, "a", "b", "")
	checkBoth(t, "A/b.html", nil, "A", "b.html")
	checkBoth(t, "a/./b/../c", nil, "a", "c")
	checkBoth(t, "blog/2026/11/short-links", nil, "blog", "2026", "11", "short-links")
	checkBoth(t, "a b/ü?", nil, "a%20b", "%C3%BC%3F")
	checkBoth(t, "d", []string{"a", "b"}, "a", "b", "d")
	checkBoth(t, "../d/e", []string{"a", "b"}, "a", "d", "e")
	checkBoth(t, "./d/", []string{"a"}, "a", "d", "")
}

func TestNoBytes(t *testing.T) {
	checkBoth(t, "", nil, "")
	checkBoth(t, "", []string{}, "")
	checkBoth(t, "", []string{"a"}, "a", "")
	checkBoth(t, "", []string{""}, "", "")
	checkBoth(t, "", []string{"a", "", "b"}, "a", "", "b", "")
}

// TestStrokes: alone, several in a row, at the start and at the end.
func TestStrokes(t *testing.T) {
	for s, want := range map[string][]string{
		"/": {"", ""}, "//": {"", "", ""}, "///": {"", "", "", ""}, "/a": {"", "a"}, "a/": {"a", ""}, "/a/": {"", "a", ""}, "//a": {"", "", "a"}, "a//": {"a", "", ""}, "a//b": {"a", "", "b"}, "a///b": {"a", "", "", "b"}, "//a//b//": {"", "", "a", "", "b", "", ""},
		"/.": {"", ""}, "./": {""}, "/./": {"", ""}, "/..": {""}, "../": {""}, "//..": {"", ""}, "/../": {""}, "//../": {"", ""}, "a//..": {"a", ""}, "a//../..": {""}, "a//../b": {"a", "b"}, "a/..//b": {"", "b"}, "a/.//b": {"a", "", "b"},
	} {
		checkBoth(t, s, nil, want...)
		checkBoth(t, s, []string{"x", ".."}, refParse(s, false, []string{"x", ".."})...)
		turned := strings.ReplaceAll(s, "/", "\\")
		mixed := strings.Replace(s, "/", "\\", 1)
		checkParse(t, turned, true, nil, want...)
		checkParse(t, turned, false, nil, turned)
		checkParse(t, mixed, true, nil, want...)
		checkParse(t, mixed, false, nil, refParse(mixed, false, nil)...)
	}
	checkBoth(t, "/", []string{"x"}, "x", "", "")
	checkBoth(t, "/..", []string{"x"}, "x", "")
	checkBoth(t, "//../../../a", []string{"x"}, "a")
}

func TestOtherStroke(t *testing.T) {
	checkParse(t, `a\b`, true, nil, "a", "b")
	checkParse(t, `a\b`, false, nil, `a\b`)
	checkParse(t, `a\b/c\d`, true, nil, "a", "b", "c", "d")
	checkParse(t, `a\b/c\d`, false, nil, `a\b`, `c\d`)
	checkParse(t, `a\..\b`, true, nil, "b")
	checkParse(t, `a\..\b`, false, nil, `a\..\b`)
	checkParse(t, `a/..\b`, true, nil, "b")
	checkParse(t, `a/..\b`, false, nil, "a", `..\b`)
	checkParse(t, `a\..`, true, nil, "")
	checkParse(t, `a\..`, false, nil, `a\..`)
	checkParse(t, `.\`, true, nil, "")
	checkParse(t, `.\`, false, nil, `.\`)
	checkParse(t, `\`, true, []string{"x"}, "x", "", "")
	checkParse(t, `\`, false, []string{"x"}, "x", `\`)
	checkParse(t, `\/`, true, nil, "", "", "")
	checkParse(t, `\/`, false, nil, `\`, "")
	checkParse(t, `/\`, true, nil, "", "", "")
	checkParse(t, `/\`, false, nil, "", `\`)
	checkParse(t, "\\ü\xff\\", true, nil, "", "%C3%BC%FF", "")
	checkParse(t, "\\ü\xff\\", false, nil, `\%C3%BC%FF\`)
	// Strokes behind per cent signs, and what looks like one, cut nothing.
	for _, s := range []string{"a%2fb", "a%2Fb", "a%5cb", "a%5Cb", "a%2f..%2Fb", "..%2f", "a|b", "a:b", "..%5c..", "%2e%2f%2e"} {
		checkBoth(t, s, nil, s)
		checkBoth(t, s, []string{"x"}, "x", s)
	}
	checkBoth(t, "a⁄b∕c／d＼e", nil, "a%E2%81%84b%E2%88%95c%EF%BC%8Fd%EF%BC%BCe")
}

// TestDouble: at the start, in the middle and at the end, with nothing ahead of it, with a base, and more of them than there are segments.
func TestDouble(t *testing.T) {
	bases := map[int][]string{0: nil, 1: {"x"}, 2: {"x", "y"}}
	for _, two := range twos {
		for s, wants := range map[string][3]string{
			"?":             {"", "", "x/"},
			"?/":            {"", "", "x/"},
			"?/?":           {"", "", ""},
			"?/?/":          {"", "", ""},
			"?/?/?":         {"", "", ""},
			"?/?/?/?/?/?/?": {"", "", ""},
			"?/a":           {"a", "a", "x/a"},
			"?/?/a":         {"a", "a", "a"},
			"?/?/?/?/?/a":   {"a", "a", "a"},
			"?/a/?":         {"", "", "x/"},
			"?/a/?/b":       {"b", "b", "x/b"},
			"?/a/?/?/b":     {"b", "b", "b"},
			"a/?":           {"", "x/", "x/y/"},
			"a/?/":          {"", "x/", "x/y/"},
			"a/?/b":         {"b", "x/b", "x/y/b"},
			"a/?/?":         {"", "", "x/"},
			"a/?/?/?":       {"", "", ""},
			"a/?/?/b":       {"b", "b", "x/b"},
			"a/?/b/?/c":     {"c", "x/c", "x/y/c"},
			"a/?/b/?":       {"", "x/", "x/y/"},
			"a/b/?":         {"a/", "x/a/", "x/y/a/"},
			"a/b/?/c":       {"a/c", "x/a/c", "x/y/a/c"},
			"a/b/?/?":       {"", "x/", "x/y/"},
			"a/b/?/?/c":     {"c", "x/c", "x/y/c"},
			"a/b/?/?/?/c":   {"c", "c", "x/c"},
			"a/b/c/?/?/d/?": {"a/", "x/a/", "x/y/a/"},
		} {
			s = strings.ReplaceAll(s, "?", two)
			for i, want := range wants {
				checkBoth(t, s, bases[i], strings.Split(want, "/")...)
			}
		}
	}
	// They need not be written alike.
	checkBoth(t, "a/b/c/%2e./d/.%2E/..", nil, "a", "")
	checkBoth(t, "%2E%2E/%2e%2e/.%2e/a", []string{"x", "y", "z", "w"}, "x", "a")
}

// TestDoubleTakesOne: one segment goes, whatever it is, be it one of no bytes, and only one.
func TestDoubleTakesOne(t *testing.T) {
	for _, segment := range slices.Concat(nearly, []string{"", "a", " ", "\x00", "ü", "\xff", "%41", `a"b`, strings.Repeat("a", 500)}) {
		checkBoth(t, segment+"/../b", nil, "b")
		checkBoth(t, segment+"/..", nil, "")
		checkBoth(t, "a/"+segment+"/../b", nil, "a", "b")
		checkBoth(t, "a/"+segment+"/%2e%2E", nil, "a", "")
		checkBoth(t, segment+"/"+segment+"/..", nil, refEncode(segment), "")
		checkBoth(t, "..", []string{"a", segment}, "a", "")
		checkBoth(t, "../b", []string{"a", segment}, "a", "b")
		checkBoth(t, "../../b", []string{"a", segment}, "b")
	}
}

// TestSingle: at the start, in the middle and at the end.
func TestSingle(t *testing.T) {
	bases := map[int][]string{0: nil, 1: {"x"}, 2: {"x", ""}}
	for _, one := range ones {
		for s, wants := range map[string][3]string{
			"?":           {"", "x/", "x//"},
			"?/":          {"", "x/", "x//"},
			"?/?":         {"", "x/", "x//"},
			"?/?/":        {"", "x/", "x//"},
			"?/a":         {"a", "x/a", "x//a"},
			"?/?/?/a":     {"a", "x/a", "x//a"},
			"?/a/?":       {"a/", "x/a/", "x//a/"},
			"a/?":         {"a/", "x/a/", "x//a/"},
			"a/?/":        {"a/", "x/a/", "x//a/"},
			"a/?/b":       {"a/b", "x/a/b", "x//a/b"},
			"a/?/?/b/?/c": {"a/b/c", "x/a/b/c", "x//a/b/c"},
			"?/../a":      {"a", "a", "x/a"},
			"../?":        {"", "", "x/"},
			"../?/a":      {"a", "a", "x/a"},
			"a/?/..":      {"", "x/", "x//"},
			"a/../?":      {"", "x/", "x//"},
			"a/?/../b":    {"b", "x/b", "x//b"},
			"a/b/?/../?":  {"a/", "x/a/", "x//a/"},
			"?//a":        {"/a", "x//a", "x///a"},
			"?//?":        {"/", "x//", "x///"},
		} {
			s = strings.ReplaceAll(s, "?", one)
			for i, want := range wants {
				checkBoth(t, s, bases[i], strings.Split(want, "/")...)
			}
		}
	}
}

// TestNearly: what is nearly dots is a segment as any other, and comes.
func TestNearly(t *testing.T) {
	for _, s := range nearly {
		want := refEncode(s)
		checkBoth(t, s, nil, want)
		checkBoth(t, "a/"+s, nil, "a", want)
		checkBoth(t, s+"/a", nil, want, "a")
		checkBoth(t, "a/"+s+"/b/", nil, "a", want, "b", "")
		checkBoth(t, s, []string{"x"}, "x", want)
	}
	checkBoth(t, ".../....", nil, "...", "....")
	checkBoth(t, ". /.. / ./ ..", nil, ".%20", "..%20", "%20.", "%20..")
	checkBoth(t, "a/.%2/%2f/%2", nil, "a", ".%2", "%2f", "%2")
}

// TestPathBytes: each byte of Path, and its neighbours, in the segments.
func TestPathBytes(t *testing.T) {
	checkBoth(t, " \"#<>?^`{}", nil, "%20%22%23%3C%3E%3F%5E%60%7B%7D")
	checkBoth(t, "\x00\x01\x09\x0A\x0D\x1F\x7F\x80\xFE\xFF", nil, "%00%01%09%0A%0D%1F%7F%80%FE%FF")
	checkBoth(t, "!$%&'()*+,-0123456789:;=@ABYZ[]_abyz|~", nil, "!$%&'()*+,-0123456789:;=@ABYZ[]_abyz|~")
	for x := range 256 {
		b := string([]byte{byte(x)})
		if b == "/" || b == "\\" {
			continue
		}
		want := b
		if x < 32 || x > 126 || strings.ContainsAny(b, " \"#<>?^`{}") {
			const digits = "0123456789ABCDEF"
			want = "%" + digits[x>>4:][:1] + digits[x&15:][:1]
		}
		for _, frame := range []string{"a@", "@a", "a@b", "@@@", "a/@@c/b", "@a/b@", "@%/%@", "ü@\xff"} {
			shown := strings.ReplaceAll(strings.ReplaceAll(frame, "ü", "%C3%BC"), "\xff", "%FF")
			checkBoth(t, strings.ReplaceAll(frame, "@", b), nil, strings.Split(strings.ReplaceAll(shown, "@", want), "/")...)
		}
	}
}

// TestPerCentStays: right ones and wrong ones; nothing is decoded, and nothing is encoded twice.
func TestPerCentStays(t *testing.T) {
	for _, s := range []string{"%", "%%", "%4", "%41", "%zz", "%41%zz", "%20", "%2520", "%25", "%c3%bc", "%C3%BC", "%3f", "%23", "%00", "%ff", "%7E", "%61%2e", "a%2eb", "%2e%41", "%2Ea", "%g2e", "100%"} {
		checkBoth(t, s, nil, s)
		checkBoth(t, s+"/"+s, []string{s}, s, s, s)
		checkBoth(t, s+" ", nil, s+"%20")
		checkBoth(t, "ü"+s, nil, "%C3%BC"+s)
	}
}

func TestBeyondASCII(t *testing.T) {
	for s, want := range map[string]string{
		"ü": "%C3%BC", "Ü": "%C3%9C", "中": "%E4%B8%AD", "\U0001F600": "%F0%9F%98%80", "\u00AD": "%C2%AD", "\uFEFF": "%EF%BB%BF", "\uFFFD": "%EF%BF%BD", "\u0080": "%C2%80", "\u2028": "%E2%80%A8",
		"\x80": "%80", "\xBF": "%BF", "\xC3": "%C3", "\xC3(": "%C3(", "\xC0\xAE": "%C0%AE", "\xE4\xB8": "%E4%B8", "\xED\xA0\x80": "%ED%A0%80", "\xF4\x90\x80\x80": "%F4%90%80%80", "\xFF\xFE": "%FF%FE", "\xC3a\xBC": "%C3a%BC",
	} {
		checkBoth(t, s, nil, want)
		checkBoth(t, "a"+s+"/"+s+"b", nil, "a"+want, want+"b")
		checkBoth(t, s+"/../"+s, []string{"x"}, "x", want)
	}
	// A stroke cuts within what would be a code point.
	checkBoth(t, "\xC3/\xBC", nil, "%C3", "%BC")
	checkParse(t, "\xE4\\\xB8\xAD", true, nil, "%E4", "%B8%AD")
	checkBoth(t, "\xC3/../\xBC", nil, "%BC")
}

// TestBases: of none, of one, of many, of no bytes; the segments of a base stay as they are, whatever they say.
func TestBases(t *testing.T) {
	checkBoth(t, "z", []string{""}, "", "z")
	checkBoth(t, "z", []string{"", "", ""}, "", "", "", "z")
	checkBoth(t, "..", []string{""}, "")
	checkBoth(t, "..", []string{"", ""}, "", "")
	checkBoth(t, "..", []string{"a", ""}, "a", "")
	checkBoth(t, "../..", []string{"a", "", "b"}, "a", "")
	checkBoth(t, "../../z", []string{"", "a", ""}, "", "z")
	checkBoth(t, "../../../z", []string{"", "a", ""}, "z")
	checkBoth(t, "../../../../z", []string{"", "a", ""}, "z")
	odd := []string{"..", ".", "%2e", "a/b", `c\d`, "e f", "ü", "\xff", "?", "", "/"}
	for n := range odd {
		base := odd[:n]
		checkBoth(t, "z", base, append(slices.Clone(base), "z")...)
		checkBoth(t, ".", base, append(slices.Clone(base), "")...)
		checkBoth(t, "..", base, append(slices.Clone(base[:max(n-1, 0)]), "")...)
		checkBoth(t, "a/../z w", base, append(slices.Clone(base), "z%20w")...)
	}
}

// TestMany: many segments, and more Doubles than there are.
func TestMany(t *testing.T) {
	const n = 5000
	all := slices.Repeat([]string{"a"}, n)
	checkBoth(t, strings.Join(all, "/"), nil, all...)
	checkBoth(t, strings.Join(all, "/"), all, slices.Repeat(all, 2)...)
	checkBoth(t, strings.Repeat("/", n), nil, make([]string, n+1)...)
	checkBoth(t, strings.Repeat("./", n), nil, "")
	checkBoth(t, strings.Repeat("../", n-1)+"b", all, "a", "b")
	checkBoth(t, strings.Repeat("../", n)+"b", all, "b")
	checkBoth(t, strings.Repeat("%2e./", n+1)+"b", all, "b")
	checkBoth(t, strings.Repeat("a/", n)+strings.Repeat("../", n), []string{"x"}, "x", "")
	checkBoth(t, strings.Repeat("a/../", n), []string{"x"}, "x", "")
	checkBoth(t, strings.Repeat(".", n), nil, strings.Repeat(".", n))
	checkBoth(t, strings.Repeat("%2E", n), nil, strings.Repeat("%2E", n))
	checkBoth(t, strings.Repeat(" ", n), nil, strings.Repeat("%20", n))
	checkParse(t, strings.Repeat(`\`, n), true, nil, make([]string, n+1)...)
	checkParse(t, strings.Repeat(`\`, n), false, nil, strings.Repeat(`\`, n))
}

// P10.2: Show

func TestShow(t *testing.T) {
	checkShow(t, "")
	checkShow(t, "", []string{}...)
	checkShow(t, "", []string(nil)...)
	checkShow(t, "/", "")
	checkShow(t, "/a", "a")
	checkShow(t, "/a/b/c", "a", "b", "c")
	checkShow(t, "/a/", "a", "")
	checkShow(t, "//a", "", "a")
	checkShow(t, "/a//b", "a", "", "b")
	checkShow(t, "//", "", "")
	checkShow(t, "///", "", "", "")
	checkShow(t, strings.Repeat("/", 300), make([]string, 300)...)
	checkShow(t, strings.Repeat("/ab", 300), slices.Repeat([]string{"ab"}, 300)...)
	// A segment is shown as it is, whatever is in it.
	for _, s := range slices.Concat(ones, twos, nearly, []string{"/", `\`, " ", "a/b", "ü", "\xff", "\x00", "?", "#", "%41", "%20"}) {
		checkShow(t, "/"+s, s)
		checkShow(t, "/a/"+s+"//"+s, "a", s, "", s)
	}
}

// What follows, and R1 to R4

// TestShortTexts: all texts of few signs.
func TestShortTexts(t *testing.T) {
	var walk func(s, signs string, left int, base ...string)
	walk = func(s, signs string, left int, base ...string) {
		checkAny(t, s, base...)
		if left > 0 {
			for i := range len(signs) {
				walk(s+signs[i:i+1], signs, left-1, base...)
			}
		}
	}
	walk("", "./a", 8, "x")
	walk("", `./\`, 7, "", "y")
	walk("", ".%2eE/", 5, "x", "y", "z")
	walk("a/%2", "%2eE./", 4)
	walk(".", "%2Ef", 5, "")
	walk("", "a \xC3\xBC/%", 4, "..", " ")
	for x := range 256 {
		for y := range 256 {
			checkAny(t, string([]byte{byte(x), byte(y)}), "x")
		}
	}
}

var seeds = []string{
	"", "a", "a/b", "a/../b", "../../a", "./", "/", "//", `a\b`, `..\..`, "%2e", "%2E%2e/a", ".%2e/.", "...", "%2", "%2f", "a b", "ü?", "\xff/\xfe", "%41%zz", "a//..//b", " \"#<>?^`{}", "a/./b/", "%252e", "~\x7f",
}

func randomText(r *rand.Rand) string {
	parts := []string{"a", "b", ".", "..", "%2e", "%2E", "%2", "...", "/", "/", "/", "/", "/", "/../", "/./", "/%2e%2E/", `\`, " ", "?", "`", "~", "\x7F", "ü", "\xff", "%", "%zz", "%41"}
	var b strings.Builder
	if r.Intn(3) == 0 {
		b.WriteString([]string{"../", "%2e./", ".", ".%2E/../", `..\../`}[r.Intn(5)])
	}
	for range r.Intn(16) {
		b.WriteString(parts[r.Intn(len(parts))])
	}
	return b.String()
}

func randomBase(r *rand.Rand) []string {
	var base []string
	for range r.Intn(5) {
		base = append(base, []string{"x", "y", "", "%20", "z"}[r.Intn(5)])
	}
	return base
}

func TestRandomTexts(t *testing.T) {
	r := rand.New(rand.NewSource(10))
	var baseLeft, baseGone, ways int
	for range 100000 {
		s, base := randomText(r), randomBase(r)
		checkAny(t, s, base...)
		l := Parse(s, true, base)
		if len(base) > 0 && len(l) > len(base) && slices.Equal(l[:len(base)], base) {
			baseLeft++
		} else if len(base) > 0 {
			baseGone++
		}
		if len(l) > len(base)+1 {
			ways++
		}
	}
	if baseLeft < 10000 || baseGone < 10000 || ways < 10000 {
		t.Errorf("of the texts only %d left their base, %d did not, %d had segments of their own", baseLeft, baseGone, ways)
	}
}

func TestRandomBytes(t *testing.T) {
	r := rand.New(rand.NewSource(1010))
	for range 30000 {
		b := make([]byte, r.Intn(12))
		for i := range b {
			b[i] = byte(r.Intn(256))
		}
		checkAny(t, string(b), "x", "y")
	}
}

// spread tells l with spare room behind it, as a piece of whole.
func spread(l ...string) (piece, whole []string) {
	whole = append(slices.Clone(l), "spare", "spare", "spare")
	return whole[:len(l)], whole
}

// TestBaseStays: the base that is handed in is not turned, spare room neither, and shares nothing with the answer.
func TestBaseStays(t *testing.T) {
	for _, s := range append(seeds, "..", "../..", "../../../..", "../z", "z", ".", "z/../..") {
		for _, special := range both {
			base, whole := spread("a", "", "b")
			l := Parse(s, special, base)
			if !slices.Equal(whole, []string{"a", "", "b", "spare", "spare", "spare"}) {
				t.Errorf("Parse(%q, %t) turned its base: %q", s, special, whole)
			}
			want := slices.Clone(l)
			for i := range whole {
				whole[i] = "changed"
			}
			if !slices.Equal(l, want) {
				t.Errorf("Parse(%q, %t): %q turned with its base into %q", s, special, want, l)
			}
			base, whole = spread("a", "", "b")
			l = Parse(s, special, base)
			for i := range l[:cap(l)] {
				l[:cap(l)][i] = "changed"
			}
			if !slices.Equal(whole, []string{"a", "", "b", "spare", "spare", "spare"}) {
				t.Errorf("Parse(%q, %t): its base is turned with the answer: %q", s, special, whole)
			}
			first, second := Parse(s, special, base), Parse(s, special, base)
			first[0] = "changed"
			if !slices.Equal(second, want) {
				t.Errorf("Parse(%q, %t): two answers share their memory: %q", s, special, second)
			}
		}
	}
}

// TestMemory: texts that share their bytes with a buffer are not changed and not kept.
func TestMemory(t *testing.T) {
	for _, s := range append(seeds, "plain/way", "z") {
		for _, special := range both {
			room := []byte("##" + s + "##basis##")
			handed := unsafe.String(unsafe.SliceData(room[2:]), len(s))
			base := []string{unsafe.String(&room[len(s)+4], len("basis"))}
			l := Parse(handed, special, base)
			one := Show(handed)
			shown := Show(handed, base[0])
			_, _ = Single(handed), Double(handed)
			if string(room) != "##"+s+"##basis##" {
				t.Errorf("%q was changed: %q", s, room)
			}
			for i := range room {
				room[i] = 'q'
			}
			if want := refParse(s, special, []string{"basis"}); !slices.Equal(l, want) {
				t.Errorf("Parse(%q, %t) kept what was handed in: %q, not %q", s, special, l, want)
			}
			if one != "/"+s || shown != "/"+s+"/basis" {
				t.Errorf("Show(%q) kept what was handed in: %q, %q", s, one, shown)
			}
		}
	}
}

// TestShowStays: the list that is shown is not turned.
func TestShowStays(t *testing.T) {
	l, whole := spread("a", "..", "", "b")
	checkShow(t, "/a/..//b", l...)
	checkShow(t, "/a/..", l[:2]...)
	if !slices.Equal(whole, []string{"a", "..", "", "b", "spare", "spare", "spare"}) {
		t.Errorf("Show turned what was handed in: %q", whole)
	}
}

// TestOneAfterAnother: what was asked ahead is not told.
func TestOneAfterAnother(t *testing.T) {
	checkParse(t, "a/b/c", true, []string{"x"}, "x", "a", "b", "c")
	checkParse(t, "", true, nil, "")
	checkParse(t, `a\b`, false, nil, `a\b`)
	checkParse(t, `a\b`, true, nil, "a", "b")
	checkParse(t, "..", true, nil, "")
	checkShow(t, "/a", "a")
	checkShow(t, "")
	checkParse(t, "z", false, []string{"x"}, "x", "z")
}

func FuzzParse(f *testing.F) {
	for _, s := range seeds {
		f.Add(s, "x", "")
	}
	f.Fuzz(func(t *testing.T, s, first, second string) { checkAny(t, s, first, second) })
}
