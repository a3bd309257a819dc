package query

import (
	"bytes"
	"fmt"
	"math/rand"
	"slices"
	"strings"
	"testing"
	"unsafe"

	"shortcut/api"
)

const lost = "\uFFFD"

// pairs are pairs of a name and a value each.
func pairs(l ...string) []api.Pair {
	var out []api.Pair
	for half := range slices.Chunk(l, 2) {
		out = append(out, api.Pair{Name: half[0], Value: half[1]})
	}
	return out
}

// checkParse holds Parse of s against names and values in turns, and what follows of them.
func checkParse(t *testing.T, s string, want ...string) {
	t.Helper()
	checkPairs(t, s, pairs(want...))
}

func checkPairs(t *testing.T, s string, want []api.Pair) {
	t.Helper()
	l := Parse(s)
	if !slices.Equal(l, want) {
		t.Errorf("Parse(%q): %q, not %q", s, l, want)
	}
	if shown := Show(l...); !slices.Equal(Parse(shown), l) {
		t.Errorf("of %q: %q is shown as %q, and parsed as %q", s, l, shown, Parse(shown))
	}
}

// checkHalf holds Parse against want where s stands as a name, as a value, as both, and between others.
func checkHalf(t *testing.T, s, want string) {
	t.Helper()
	checkParse(t, s+"=v", want, "v")
	checkParse(t, "n="+s, "n", want)
	checkParse(t, s+"="+s, want, want)
	checkParse(t, "a=1&"+s+"="+s+"&b=2", "a", "1", want, want, "b", "2")
	checkParse(t, "&x"+s+"y=z"+s+"&", "x"+want+"y", "z"+want)
	if s != "" {
		checkParse(t, s, want, "")
		checkParse(t, "a&"+s+"&b", "a", "", want, "", "b", "")
	}
}

func checkShow(t *testing.T, want string, l ...string) {
	t.Helper()
	checkShown(t, want, pairs(l...))
}

// checkShown holds Show of l against want, and that it is parsed as it was.
func checkShown(t *testing.T, want string, l []api.Pair) {
	t.Helper()
	shown := Show(l...)
	if shown != want {
		t.Errorf("Show(%q): %q, not %q", l, shown, want)
	}
	if again := Parse(shown); !slices.Equal(again, refAsItWas(l)) {
		t.Errorf("%q is shown as %q, and parsed as %q", l, shown, again)
	}
}

// checkAny holds all that is asked of s against the references.
func checkAny(t *testing.T, s string) {
	t.Helper()
	checkPairs(t, s, refParse(s))
	l := pairs(s, "v", "n", s, "", s, s, "")
	checkShown(t, refShow(l), l)
}

// P11.1: Parse

func TestOrdinary(t *testing.T) {
	checkParse(t, "a=b+c", "a", "b c")
	checkParse(t, "a=1&b=2", "a", "1", "b", "2")
	checkParse(t, "b=2&a=1", "b", "2", "a", "1")
	checkParse(t, "name=value", "name", "value")
	checkParse(t, "q=a+short+link&lang=de&page=2", "q", "a short link", "lang", "de", "page", "2")
	checkParse(t, "Name=Value&nAME=vALUE", "Name", "Value", "nAME", "vALUE")
	// Pairs of one name are all told, in their order.
	checkParse(t, "a=1&a=2&a=1&a", "a", "1", "a", "2", "a", "1", "a", "")
	checkParse(t, "=&=", "", "", "", "")
}

func TestEmptyPieces(t *testing.T) {
	checkParse(t, "")
	for n := range 100 {
		checkParse(t, strings.Repeat("&", n))
		checkParse(t, strings.Repeat("&", n)+"a=1", "a", "1")
		checkParse(t, "a=1"+strings.Repeat("&", n), "a", "1")
		checkParse(t, "a=1&"+strings.Repeat("&", n)+"b=2", "a", "1", "b", "2")
		checkParse(t, strings.Repeat("&", n)+"a&"+strings.Repeat("&", n)+"b"+strings.Repeat("&", n), "a", "", "b", "")
	}
	checkParse(t, "&=&", "", "")
	checkParse(t, "&+&", " ", "")
	checkParse(t, "&%&", "%", "")
	checkParse(t, "& &", " ", "")
	checkParse(t, "&\x00&", "\x00", "")
}

func TestEquals(t *testing.T) {
	checkParse(t, "a", "a", "")
	checkParse(t, "abc&de", "abc", "", "de", "")
	checkParse(t, "=", "", "")
	checkParse(t, "=v", "", "v")
	checkParse(t, "n=", "n", "")
	checkParse(t, "=v&n=", "", "v", "n", "")
	checkParse(t, "==", "", "=")
	checkParse(t, "===", "", "==")
	checkParse(t, "a==", "a", "=")
	checkParse(t, "==a", "", "=a")
	checkParse(t, "a=b=c", "a", "b=c")
	checkParse(t, "a=b=c=d=", "a", "b=c=d=")
	checkParse(t, "=a=b", "", "a=b")
	checkParse(t, "a==b", "a", "=b")
	checkParse(t, "a&=&b=&=c&d=e=f", "a", "", "", "", "b", "", "", "c", "d", "e=f")
}

func TestPlus(t *testing.T) {
	checkHalf(t, "+", " ")
	checkHalf(t, "++", "  ")
	checkHalf(t, "a+b", "a b")
	checkHalf(t, "+a++b+", " a  b ")
	checkHalf(t, "%2B", "+")
	checkHalf(t, "%2b", "+")
	checkHalf(t, "%20", " ")
	checkHalf(t, " ", " ")
	checkHalf(t, "+%2B%20 ", " +  ")
	checkHalf(t, "%2B+%2b", "+ +")
	// A plus is no digit, a space neither.
	checkHalf(t, "%+1", "% 1")
	checkHalf(t, "%4+", "%4 ")
	checkHalf(t, "%+41", "% 41")
	checkHalf(t, "%4+1", "%4 1")
	// What came out from behind a per cent sign is looked at no more.
	checkHalf(t, "%252B", "%2B")
	checkHalf(t, "%2%42", "%2B")
	checkHalf(t, "%25+", "% ")
}

func TestPerCent(t *testing.T) {
	for x := range 128 {
		want := string([]byte{byte(x)})
		for _, form := range []string{"%%%02x", "%%%02X"} {
			checkHalf(t, fmt.Sprintf(form, x), want)
		}
	}
	checkHalf(t, "%4a%4A%6a%6A", "JJjj")
	checkHalf(t, "%c3%bC%C3%Bc", "üü")
	checkHalf(t, "a%41b%42c", "aAbBc")
	for _, s := range []string{
		"%", "%%", "%%%", "a%", "%4", "%a", "%4%", "%F%", "a%4", "100%", "%g", "%g1", "%1g", "%G1", "%1G", "%/1", "%1/", "%:1", "%1:", "%@1", "%1@", "%`1", "%1`", "%zz", "% 41", "%-1", "%x41", "%0x", "%u0041", "%4ü", "%ü4", "%\x004", "%4\x00", "％41", "%４1",
	} {
		checkHalf(t, s, s)
	}
	// Once: what was found is not looked at again.
	checkHalf(t, "%2541", "%41")
	checkHalf(t, "%25%34%31", "%41")
	checkHalf(t, "%%341", "%41")
	checkHalf(t, "%4%31", "%41")
	checkHalf(t, "%%41", "%A")
	checkHalf(t, "%4%41", "%4A")
	checkHalf(t, "%411", "A1")
	checkHalf(t, "%25", "%")
	// No sign and its digits are put together over what cuts.
	checkParse(t, "%4&1", "%4", "", "1", "")
	checkParse(t, "%&41", "%", "", "41", "")
	checkParse(t, "%=41", "%", "41")
	checkParse(t, "%4=1", "%4", "1")
	checkParse(t, "%=%4", "%", "%4")
	checkParse(t, "%c3&%bc", lost, "", lost, "")
}

// TestHiddenCuts: what stands behind a per cent sign cuts nothing.
func TestHiddenCuts(t *testing.T) {
	checkHalf(t, "%26", "&")
	checkHalf(t, "%3D", "=")
	checkHalf(t, "%3d", "=")
	checkHalf(t, "a%26b", "a&b")
	checkHalf(t, "a%3Db", "a=b")
	checkHalf(t, "%26%26%3d%3D", "&&==")
	checkHalf(t, "a%3D1%26b%3D2", "a=1&b=2")
	checkParse(t, "a%3Db=c%3Dd", "a=b", "c=d")
	checkParse(t, "a%3Db=c=d", "a=b", "c=d")
	checkParse(t, "a%26b=c%26d&e", "a&b", "c&d", "e", "")
	checkParse(t, "%3D%3D", "==", "")
	checkParse(t, "%26&%26", "&", "", "&", "")
}

// TestNoOtherCut: & and = alone cut, and nothing else is turned.
func TestNoOtherCut(t *testing.T) {
	for x := range 128 {
		s := string([]byte{byte(x)})
		if s != "&" && s != "=" && s != "+" {
			checkHalf(t, s, s)
		}
	}
	for _, s := range []string{
		";", "a;b", "?", "?a", "#", "/", `\`, "a[]", "\r\n", "\t", "A", "~", "＆", "＝", "＋", "\u00A0", "\u3000", "\uFEFF", "\uFEFFa", "e\u0301", "é", "İ", "ß", "\u00AD", lost, "a" + lost, "\U0010FFFF", "\uFFFE",
	} {
		checkHalf(t, s, s)
	}
	checkHalf(t, "%EF%BB%BFa", "\uFEFFa")
	checkHalf(t, "%ef%bf%bd", lost)
	checkHalf(t, "%0D%0A", "\r\n")
	checkHalf(t, "%00", "\x00")
	checkParse(t, "?a=1;b=2#c", "?a", "1;b=2#c")
}

func behindSigns(s string) string {
	var b strings.Builder
	for i := range len(s) {
		fmt.Fprintf(&b, "%%%02x", s[i])
	}
	return b.String()
}

// checkEach holds Parse against want where the bytes of s stand as they are, behind per cent signs, and half so and half so.
func checkEach(t *testing.T, s, want string) {
	t.Helper()
	for n := range len(s) + 1 {
		checkHalf(t, behindSigns(s[:n])+s[n:], want)
		checkHalf(t, s[:n]+behindSigns(s[n:]), want)
	}
}

func TestBeyondASCII(t *testing.T) {
	for _, s := range []string{"ü", "äöü", "中", "日本", "\U0001F517", "a\U0001F517ü中", "\u0080", "\u07FF", "\u0800", "\uD7FF", "\uE000", "\uFFFD", "\uFFFF", "\U00010000", "\U0010FFFF", "%ü", "ü%"} {
		checkEach(t, s, s)
	}
}

// TestNoUTF8: each byte that belongs to no code point is U+FFFD.
func TestNoUTF8(t *testing.T) {
	for x := 128; x < 256; x++ {
		checkEach(t, string([]byte{byte(x)}), lost)
		checkEach(t, string([]byte{byte(x), 'a'}), lost+"a")
	}
	for s, n := range map[string]int{
		"\x80\xBF": 2, "\xFF\xFE": 2, "\xFF\xFF\xFF": 3,
		"\xC3": 1, "\xE4\xB8": 2, "\xE4": 1, "\xF0\x9F\x94": 3, "\xF0\x9F": 2, "\xF0": 1, // cut off
		"\xC0\x80": 2, "\xC1\xBF": 2, "\xE0\x80\x80": 3, "\xE0\x9F\xBF": 3, "\xF0\x80\x80\x80": 4, "\xF0\x8F\xBF\xBF": 4, // not the shortest
		"\xED\xA0\x80": 3, "\xED\xBF\xBF": 3, "\xED\xA0\xBD\xED\xB4\x97": 6, // halves of pairs
		"\xF4\x90\x80\x80": 4, "\xF5\x80\x80\x80": 4, "\xF8\x88\x80\x80\x80": 5, "\xFC\x84\x80\x80\x80\x80": 6, // too great
	} {
		checkEach(t, s, strings.Repeat(lost, n))
		checkEach(t, s+"ü", strings.Repeat(lost, n)+"ü")
		checkEach(t, "a"+s+"b", "a"+strings.Repeat(lost, n)+"b")
		checkEach(t, s+" "+s, strings.Repeat(lost, n)+" "+strings.Repeat(lost, n))
	}
	// What cuts, cuts within what would be a code point; so does a space.
	checkParse(t, "\xC3&\xBC", lost, "", lost, "")
	checkParse(t, "\xC3=\xBC", lost, lost)
	checkParse(t, "%E4%B8=%AD&%e4&%b8%ad", lost+lost, lost, lost, "", lost+lost, "")
	checkHalf(t, "\xC3+\xBC", lost+" "+lost)
	checkHalf(t, "%C3+%BC", lost+" "+lost)
	checkHalf(t, "%C3%2B%BC", lost+"+"+lost)
	checkHalf(t, "%C3%26%BC", lost+"&"+lost)
	checkHalf(t, "%C3%3D%BC", lost+"="+lost)
	checkHalf(t, "%C3%%BC", lost+"%"+lost)
}

// numbered tells n pairs that differ, and the pieces that they are parsed from.
func numbered(n int) (pieces []string, l []api.Pair) {
	for i := range n {
		pieces = append(pieces, fmt.Sprintf("n%d=v+%d", i, i))
		l = append(l, api.Pair{Name: fmt.Sprintf("n%d", i), Value: fmt.Sprintf("v %d", i)})
	}
	return pieces, l
}

func TestAtMost(t *testing.T) {
	if api.MaxPairs != 40 {
		t.Errorf("MaxPairs: %d", api.MaxPairs)
	}
	for _, n := range []int{1, 2, api.MaxPairs - 1, api.MaxPairs, api.MaxPairs + 1, 2*api.MaxPairs - 1, 2 * api.MaxPairs, 1000, 100000} {
		pieces, l := numbered(n)
		want := l[:min(n, api.MaxPairs)]
		checkPairs(t, strings.Join(pieces, "&"), want)
		// Empty pieces count for none.
		for _, empty := range []string{"&", "&&", strings.Repeat("&", 50)} {
			checkPairs(t, strings.Join(pieces, "&"+empty), want)
			checkPairs(t, empty+strings.Join(pieces, "&"), want)
			checkPairs(t, strings.Join(pieces, "&")+empty, want)
		}
	}
	pieces, l := numbered(api.MaxPairs - 1)
	few := strings.Join(pieces, "&")
	for _, last := range []string{"", "&", "&&&&"} {
		checkPairs(t, few+last, l)
		checkPairs(t, few+"&"+last+"=", append(slices.Clone(l), api.Pair{}))
		checkPairs(t, few+"&"+last+"x", append(slices.Clone(l), api.Pair{Name: "x"}))
		checkPairs(t, few+"&"+last+"x&=y", append(slices.Clone(l), api.Pair{Name: "x"}))
	}
	// A pair of no bytes counts for one, and one that was there already too.
	checkPairs(t, strings.Repeat("=&", api.MaxPairs)+"a=1", make([]api.Pair, api.MaxPairs))
	checkPairs(t, strings.Repeat("=&", api.MaxPairs-1)+"a=1&b=2", append(make([]api.Pair, api.MaxPairs-1), api.Pair{Name: "a", Value: "1"}))
	checkPairs(t, strings.Repeat("a=1&", 50)+"b=2", slices.Repeat(pairs("a", "1"), api.MaxPairs))
}

// TestLong: long texts come to their end.
func TestLong(t *testing.T) {
	const n = 1 << 20
	checkParse(t, strings.Repeat("&", n))
	checkParse(t, strings.Repeat("=", n), "", strings.Repeat("=", n-1))
	checkParse(t, strings.Repeat("a", n), strings.Repeat("a", n), "")
	checkParse(t, "="+strings.Repeat("+", n), "", strings.Repeat(" ", n))
	checkParse(t, strings.Repeat("%", n), strings.Repeat("%", n), "")
	checkParse(t, strings.Repeat("%c3%bc", n)+"="+strings.Repeat("\xff", n), strings.Repeat("ü", n), strings.Repeat(lost, n))
	checkPairs(t, strings.Repeat("=&", n), make([]api.Pair, api.MaxPairs))
}

// P11.1: Show

func TestShow(t *testing.T) {
	checkShow(t, "")
	checkShown(t, "", []api.Pair{})
	checkShow(t, "a=b+c", "a", "b c")
	checkShow(t, "a=1&b=2", "a", "1", "b", "2")
	checkShow(t, "b=2&a=1&b=2", "b", "2", "a", "1", "b", "2")
	checkShow(t, "=", "", "")
	checkShow(t, "=&=", "", "", "", "")
	checkShow(t, "n=", "n", "")
	checkShow(t, "=v", "", "v")
	checkShow(t, "=&n=&=v&n=v", "", "", "n", "", "", "v", "n", "v")
	checkShow(t, "+=+", " ", " ")
	checkShow(t, "%2B=%2B", "+", "+")
	checkShow(t, "%25=%25", "%", "%")
	checkShow(t, "%2520=%2B+%2520", "%20", "+ %20")
	checkShow(t, "%3D=%3D", "=", "=")
	checkShow(t, "%26=%26", "&", "&")
	checkShow(t, "a%3D1%26b%3D2=%26%26", "a=1&b=2", "&&")
	checkShow(t, "%C3%BC=%E4%B8%AD&%F0%9F%94%97=", "ü", "中", "\U0001F517", "")
	checkShow(t, "%FF=%C3&%E4%B8=%ED%A0%80", "\xff", "\xC3", "\xE4\xB8", "\xED\xA0\x80")
	checkShow(t, "%EF%BF%BD=%EF%BB%BF", lost, "\uFEFF")
	checkShow(t, "%0D%0A=%00%09%7F%C2%80", "\r\n", "\x00\t\x7F\u0080")
	checkShow(t, "AZaz09*-._=%7E%21", "AZaz09*-._", "~!")
}

// TestShowBytes: each byte, those of Form and their neighbours.
func TestShowBytes(t *testing.T) {
	const plain = "ABCDEFGHIJKLMNOPQRSTUVWXYZabcdefghijklmnopqrstuvwxyz0123456789*-._"
	for x := range 256 {
		s := string([]byte{byte(x)})
		want := fmt.Sprintf("%%%02X", x)
		switch {
		case strings.Contains(plain, s):
			want = s
		case s == " ":
			want = "+"
		}
		checkShow(t, want+"=", s, "")
		checkShow(t, "="+want, "", s)
		checkShow(t, "a"+want+"b="+want+want+"&"+want+"="+want, "a"+s+"b", s+s, s, s)
	}
	for _, edge := range []string{"/0", "9:", "@A", "Z[", "`a", "z{", ")*+", ",-./", "^_`"} {
		checkShow(t, refShow(pairs(edge, edge)), edge, edge)
	}
}

// TestShowMany: all of them are shown, more than are parsed too.
func TestShowMany(t *testing.T) {
	for _, n := range []int{1, 2, api.MaxPairs - 1, api.MaxPairs, api.MaxPairs + 1, 1000} {
		pieces, l := numbered(n)
		checkShown(t, strings.Join(pieces, "&"), l)
		checkShown(t, strings.Repeat("&=", n)[1:], make([]api.Pair, n))
	}
	const n = 1 << 20
	checkShow(t, strings.Repeat("+", n)+"="+strings.Repeat("%26", n), strings.Repeat(" ", n), strings.Repeat("&", n))
}

// What follows, and R1 to R4

// TestShortTexts: all texts of few signs, parsed, and shown as names and values.
func TestShortTexts(t *testing.T) {
	var walk func(s string, signs []string, left int)
	walk = func(s string, signs []string, left int) {
		checkAny(t, s)
		if left > 0 {
			for _, sign := range signs {
				walk(s+sign, signs, left-1)
			}
		}
	}
	walk("", []string{"&", "=", "a"}, 8)
	walk("", []string{"&", "=", "+", "%", "2"}, 5)
	walk("", []string{"%", "2", "B", "b", "6"}, 5)
	walk("", []string{"%", "4", "1", "g", "+"}, 5)
	walk("", []string{"%26", "%3D", "%2B", "%20", "&", "=", "+"}, 4)
	walk("", []string{"\xC3", "%c3", "\xBC", "%BC", "&", "=", "%"}, 4)
	walk("", []string{"\xE4", "\xB8", "\xAD", "%E4", "%b8", "%AD", "+"}, 4)
	for x := range 256 {
		for y := range 256 {
			checkAny(t, string([]byte{byte(x), byte(y)}))
		}
	}
}

var seeds = []string{
	"", "a=b+c", "&", "&&&", "a", "=", "==", "a=b=c", "=v&n=", "a&a=1&&b", "&a=1&", "a+b=%2B%20", "%26=%3d", "%C3%BC=%ff", "%=%4", "%zz=%1g", "\xff=\xfe", "ü=中", "%e4%b8&=%ad", "\xC3=\xBC", "a;b=c", "%252B=+", "\uFEFFa=%EF%BB%BF", "\x00=\x7F", strings.Repeat("&a=1", 41), strings.Repeat("=&&", 40) + "z",
}

func randomText(r *rand.Rand) string {
	parts := []string{"a", "b", "=", "=", "&", "&", "&", "&&", "+", "%", "%2", "%2B", "%2b", "%20", "%26", "%3D", "%25", "%c3", "%BC", "%c3%bc", "%zz", "%FF", "ü", "中", "\xC3", "\xBC", "\xff", " ", ";", "~", "*", "\x00", "\U0001F517", lost}
	var b strings.Builder
	for range r.Intn(1 << r.Intn(11)) {
		b.WriteString(parts[r.Intn(len(parts))])
	}
	return b.String()
}

func TestRandomTexts(t *testing.T) {
	r := rand.New(rand.NewSource(11))
	var none, some, most int
	for range 30000 {
		s := randomText(r)
		checkAny(t, s)
		switch len(Parse(s)) {
		case 0:
			none++
		case api.MaxPairs:
			most++
		default:
			some++
		}
	}
	if none < 1000 || some < 10000 || most < 500 {
		t.Errorf("of the texts %d had no pair, %d some, %d as many as may be", none, some, most)
	}
}

func TestRandomBytes(t *testing.T) {
	r := rand.New(rand.NewSource(1111))
	for range 30000 {
		b := make([]byte, r.Intn(16))
		for i := range b {
			b[i] = byte(r.Intn(256))
		}
		checkAny(t, string(b))
	}
}

// TestRandomPairs: lists of pairs, shown and parsed as they were.
func TestRandomPairs(t *testing.T) {
	r := rand.New(rand.NewSource(111))
	for range 10000 {
		var l []api.Pair
		for range r.Intn(50) {
			l = append(l, api.Pair{Name: textOf(r), Value: textOf(r)})
		}
		checkShown(t, refShow(l), l)
	}
}

// textOf tells a short text of bytes, most of them UTF-8.
func textOf(r *rand.Rand) string {
	var b strings.Builder
	for range r.Intn(5) {
		switch r.Intn(8) {
		case 0:
			b.WriteByte(byte(r.Intn(256)))
		case 1:
			b.WriteRune(rune(r.Intn(0x110000)))
		default:
			b.WriteByte(byte(r.Intn(128)))
		}
	}
	return b.String()
}

// TestParseStays: a text that shares its bytes with a buffer is not changed and not kept.
func TestParseStays(t *testing.T) {
	for _, s := range append(seeds, "plain=text", "x", "x=y", "long name without a value") {
		room := []byte("##" + s + "##")
		handed := unsafe.String(&room[2], len(s))
		l, want := Parse(handed), refParse(s)
		if string(room) != "##"+s+"##" {
			t.Errorf("Parse(%q) changed it: %q", s, room)
		}
		for i := range room {
			room[i] = 'q'
		}
		if !slices.Equal(l, want) {
			t.Errorf("Parse(%q) kept what was handed in: %q, not %q", s, l, want)
		}
	}
}

// TestAnswersApart: two answers share no memory, whatever is done to one of them.
func TestAnswersApart(t *testing.T) {
	for _, s := range seeds {
		first, second := Parse(s), Parse(s)
		whole := first[:cap(first)]
		for i := range whole {
			whole[i] = api.Pair{Name: "changed", Value: "changed"}
		}
		if want := refParse(s); !slices.Equal(second, want) || !slices.Equal(Parse(s), want) {
			t.Errorf("Parse(%q): %q, not %q, when an answer ahead was turned", s, second, want)
		}
	}
}

// TestShowStays: the list that is shown, and its texts, are not turned and not kept; spare room neither.
func TestShowStays(t *testing.T) {
	for _, s := range append(seeds, "plain", "two words") {
		room := bytes.Repeat([]byte(s+"#"), 2)
		name, value := unsafe.String(unsafe.SliceData(room), len(s)), unsafe.String(&room[len(s)+1], len(s))
		whole := pairs(name, value, value, "", "spare", "room", "spare", "room")
		before := pairs(s, s, s, "", "spare", "room", "spare", "room")
		one, two, none := Show(whole[:1]...), Show(whole[:2]...), Show(whole[:0]...)
		if !slices.Equal(whole, before) || string(room) != s+"#"+s+"#" {
			t.Errorf("Show turned what was handed in: %q, not %q", whole, before)
		}
		for i := range room {
			room[i] = 'q'
		}
		clear(whole)
		if one != refShow(before[:1]) || two != refShow(before[:2]) || none != "" {
			t.Errorf("Show kept what was handed in of %q: %q, %q, %q", s, one, two, none)
		}
	}
}

// TestOneAfterAnother: what was asked ahead is not told.
func TestOneAfterAnother(t *testing.T) {
	checkParse(t, "a=1&b=2&c=3", "a", "1", "b", "2", "c", "3")
	checkParse(t, "")
	checkParse(t, "z", "z", "")
	checkShow(t, "a=1&b=2", "a", "1", "b", "2")
	checkShow(t, "")
	checkShow(t, "z=", "z", "")
	for _, s := range seeds {
		first := Parse(s)
		for _, other := range seeds {
			Parse(other)
			Show(refParse(other)...)
		}
		if again := Parse(s); !slices.Equal(first, again) || Show(first...) != Show(again...) {
			t.Errorf("Parse(%q): %q at first, then %q", s, first, again)
		}
	}
}

func FuzzParse(f *testing.F) {
	for _, s := range seeds {
		f.Add(s)
	}
	f.Fuzz(func(t *testing.T, s string) { checkAny(t, s) })
}
