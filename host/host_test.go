package host

import (
	"math/rand"
	"strconv"
	"strings"
	"testing"
	"unsafe"

	"shortcut/api"
)

// noHost: the chapter's 'Words', byte for byte.
const noHost = "\x00\x09\x0A\x0D #/:<>?@[\\]^|"

var both = []bool{true, false}

// checkHost holds Parse of s against want, and what follows of that.
func checkHost(t *testing.T, s string, special bool, want string) {
	t.Helper()
	if h, e := Parse(s, special); h != want || e != api.OK {
		t.Errorf("Parse(%q, %t): %q, %d, not %q", s, special, h, e, want)
	}
	checkOwn(t, want, special)
}

func checkNone(t *testing.T, s string, special bool) {
	t.Helper()
	if h, e := Parse(s, special); h != "" || e != api.ErrHost {
		t.Errorf("Parse(%q, %t): %q, %d, not ErrHost", s, special, h, e)
	}
}

// checkOwn holds Parse of a host's own text against it, and IP4 and IP6 of it against the references.
func checkOwn(t *testing.T, h string, special bool) {
	t.Helper()
	if again, e := Parse(h, special); again != h || e != api.OK {
		t.Errorf("Parse(%q, %t), a host's own text: %q, %d", h, special, again, e)
	}
	checkNumbers(t, h)
}

func checkNumbers(t *testing.T, s string) {
	t.Helper()
	want4, wantIs4 := refIP4(s)
	if a, is := IP4(s); a != want4 || is != wantIs4 {
		t.Errorf("IP4(%q): %#x, %t, not %#x, %t", s, a, is, want4, wantIs4)
	}
	want6, wantIs6 := refIP6(s)
	if a, is := IP6(s); a != want6 || is != wantIs6 {
		t.Errorf("IP6(%q): %x, %t, not %x, %t", s, a, is, want6, wantIs6)
	}
}

// checkAny holds Parse of s, special and not, against the reference.
func checkAny(t *testing.T, s string) {
	t.Helper()
	for _, special := range both {
		want, wantErr := refParse(s, special)
		h, e := Parse(s, special)
		if h != want || e != wantErr {
			t.Errorf("Parse(%q, %t): %q, %d, not %q, %d", s, special, h, e, want, wantErr)
		}
		if e == api.OK {
			checkOwn(t, h, special)
		}
	}
	checkNumbers(t, s)
}

// P9.1: Parse

func TestExample(t *testing.T) {
	checkHost(t, "%41.com", true, "a.com")
}

func TestOrdinaryHosts(t *testing.T) {
	for s, want := range map[string]string{
		"a":                   "a",
		"localhost":           "localhost",
		"example.com":         "example.com",
		"www.Example.COM":     "www.example.com",
		"example.com.":        "example.com.",
		"a.1.b":               "a.1.b",
		"1.2.3.4.com":         "1.2.3.4.com",
		"0x7f.1.a":            "0x7f.1.a",
		"my_host-1.test":      "my_host-1.test",
		"a!$&'()*+,;=_`{}~\"": "a!$&'()*+,;=_`{}~\"",
		"bücher.de":           "xn--bcher-kva.de",
		"BÜCHER。DE":           "xn--bcher-kva.de",
		"xn--bcher-KVA.de":    "xn--bcher-kva.de",
		"中国":                  "xn--fiqs8s",
		"ＡＢＣ．ｃｏｍ":             "abc.com",
		"a\u00ADb.com":        "ab.com",
	} {
		checkHost(t, s, true, want)
	}
	for s, want := range map[string]string{
		"a":                      "a",
		"example.com":            "example.com",
		"www.Example.COM":        "www.Example.COM",
		"example.com..":          "example.com..",
		".":                      ".",
		"a!$&'()*+,;=_`{}~\"%-.": "a!$&'()*+,;=_`{}~\"%-.",
		"bücher.de":              "b%C3%BCcher.de",
		"a。b":                    "a%E3%80%82b",
		"xn--":                   "xn--",
		"XN--BCHER-kva":          "XN--BCHER-kva",
		"\U0001F600":             "%F0%9F%98%80",
		strings.Repeat("a", 600): strings.Repeat("a", 600),
	} {
		checkHost(t, s, false, want)
	}
}

func TestNoBytes(t *testing.T) {
	checkNone(t, "", true)
	checkHost(t, "", false, "")
	// Of special, what nothing is left of is none too.
	for _, s := range []string{"\u00AD", "%C2%AD", "\u200B\u2060", "%EF%BB%BF", "\u200C%E2%80%8D"} {
		checkNone(t, s, true)
	}
	for _, s := range []string{".", "%2E", "。", "\u00AD.", "..", "%2e%2E", ".a", "a..b", "a..", "\u00AD.a"} {
		checkNone(t, s, true)
	}
	for s, want := range map[string]string{"\u00AD": "%C2%AD", "%C2%AD": "%C2%AD", ".": ".", "%2E": "%2E", "..": "..", ".a": ".a", "a..b": "a..b"} {
		checkHost(t, s, false, want)
	}
}

// spellings: what stands in brackets, and as what it is shown.
var spellings = map[string]string{
	"::":                      "[::]",
	"::1":                     "[::1]",
	"::0001":                  "[::1]",
	"0:0:0:0:0:0:0:0":         "[::]",
	"0:0:0:0:0:0:0:1":         "[::1]",
	"1:2:3:4:5:6:7:8":         "[1:2:3:4:5:6:7:8]",
	"0001:0002:3:4:5:6:7:08":  "[1:2:3:4:5:6:7:8]",
	"1::8":                    "[1::8]",
	"1:0:0:0:0:0:0:8":         "[1::8]",
	"1:0::0:8":                "[1::8]",
	"1::":                     "[1::]",
	"1:2:3:4:5:6:7::":         "[1:2:3:4:5:6:7:0]",
	"::2:3:4:5:6:7:8":         "[0:2:3:4:5:6:7:8]",
	"1::3:4:5:6:7:8":          "[1:0:3:4:5:6:7:8]",
	"1:0:0:4:0:0:7:8":         "[1::4:0:0:7:8]",
	"1:0:0:4:0:0:0:8":         "[1:0:0:4::8]",
	"2001:DB8::ABCD":          "[2001:db8::abcd]",
	"2001:db8::FF00:0042:832": "[2001:db8::ff00:42:832]",
	"FFFF:ffff:FfFf:fFfF:ffff:ffff:ffff:ffff": "[ffff:ffff:ffff:ffff:ffff:ffff:ffff:ffff]",
	"::1.2.3.4":                "[::102:304]",
	"::ffff:127.0.0.1":         "[::ffff:7f00:1]",
	"::FFFF:0.0.0.0":           "[::ffff:0:0]",
	"1:2:3:4:5:6:255.254.0.10": "[1:2:3:4:5:6:fffe:a]",
	"64:ff9b::10.0.0.255":      "[64:ff9b::a00:ff]",
}

func TestInBrackets(t *testing.T) {
	for between, want := range spellings {
		for _, special := range both {
			checkHost(t, "["+between+"]", special, want)
			checkHost(t, "["+strings.ToUpper(between)+"]", special, want)
			checkHost(t, "["+strings.ToLower(between)+"]", special, want)
		}
		checkNone(t, between, true)
		checkNone(t, between, false)
	}
}

func TestNoneInBrackets(t *testing.T) {
	for _, between := range []string{
		"", " ", ":", ":::", "1", "g", "a.com", "localhost", "1.2.3.4", "127.1", "0x7f000001", "1:2:3:4:5:6:7", "1:2:3:4:5:6:7:8:9", "1:2:3:4:5:6:7:8::", "1::2::3", "::12345", "::g", "::-1", "::0x1", ":1", "1:", ":1::", "::1:",
		"::1.2.3", "::1.2.3.4.5", "::256.2.3.4", "::01.2.3.4", "::1.2.3.4.", "::1.2.3.4:5", "1.2.3.4::", "fe80::1%1", "fe80::1%25eth0", "::1%", "v1.a", "vF.:", "::1 ", " ::1", "::1\t", "\n::1", "::1\x00", "::1/", "::1#", "::1@", "1:2:3:4:5:6:7:8:80",
		"%3A%3A1", ":%3A1", "::%31", "::1%5D", "%5B::1", "%30::", "::１", "：：1", "::۱", "::\xff", "::1\u00AD", "\u00AD::1", "::1。2.3.4", "::Ａ",
	} {
		for _, special := range both {
			checkNone(t, "["+between+"]", special)
		}
	}
}

// TestBrackets: what begins with one stands in brackets whole, or is none: nothing ahead, nothing behind, and one of each sign.
func TestBrackets(t *testing.T) {
	for _, special := range both {
		for _, s := range []string{
			"[", "[[", "[]", "[[]", "[]]", "[[]]", "[][]", "[ ]", "[]a", "[a", "[a]b", "[:]", "[::", "[::1", "[1:2:3:4:5:6:7:8", "[%5D", "[::1%5D", "[::1%5d", "[a.com", "[.", "[1.2.3.4",
			"[::1]a", "[::1].", "[::1].com", "[::1]:", "[::1]:80", "[::1] ", "[::1]\n", "[::1]\x00", "[::1]]", "[::1]/", "[::1]%00", "[::1]%5D", "[::1]\xff", "[::1]\u00AD", "[::1]1", "[::1]::1", "[::1][::1]", "[::1].1.2.3.4",
			"[[::1]", "[[::1]]", "[::1][", "[::1[]", "[::]1]", "[:[:1]", "[:]:1]", "[::1][]", "[][::1]", "[ [::1]]", "[::1]]]",
			"::1]", "]", "a]", "]]", "][", "]::1[", "a[", "a[::1]", " [::1]", "\n[::1]", "\x00[::1]", "a[]", "::1", "(::1)", "{::1}", "<::1>",
		} {
			checkNone(t, s, special)
		}
	}
	// Of special, a bracket behind a per cent sign is no bracket that a host begins with, and a byte that no name has.
	for _, s := range []string{"%5B::1]", "%5B::1%5D", "%5b::1%5d", "%5B%3A%3A1%5D", "%5B", "%5D", "%5Ba", "a%5D", "［::1］", "［：：1］", "\u00AD[::1]", "%C2%AD[::1]"} {
		checkNone(t, s, true)
	}
	checkHost(t, "%5B%3A%3A1%5D", false, "%5B%3A%3A1%5D")
	checkHost(t, "%5B", false, "%5B")
	checkHost(t, "%5D", false, "%5D")
	checkNone(t, "%5B::1]", false)
	checkNone(t, "\u00AD[::1]", false)
	checkHost(t, "［", false, "%EF%BC%BB")
}

// TestPerCent: of special, what is behind per cent signs is decoded once, ahead of all that domain and ip4 say.
func TestPerCent(t *testing.T) {
	for s, want := range map[string]string{
		"%41":                      "a",
		"%61":                      "a",
		"%5a%5A":                   "zz",
		"%41%2E%43om":              "a.com",
		"a%2ecom":                  "a.com",
		"a%2Ecom%2e":               "a.com.",
		"%65%78%61%6D%70%6C%65.ab": "example.ab",
		"b%C3%BCcher.de":           "xn--bcher-kva.de",
		"B%c3%9cCHER%2ede":         "xn--bcher-kva.de",
		"b%C3\xBCcher":             "xn--bcher-kva", // a code point, half of it behind a per cent sign
		"b\xC3%BCcher":             "xn--bcher-kva",
		"a%E3%80%82b":              "a.b",
		"a%EF%BC%8Eb":              "a.b",
		"%EF%BD%81":                "a",
		"a%C2%ADb":                 "ab",
		"%78%6E--bcher-kva":        "xn--bcher-kva",
		"xn%2D%2Dbcher-kva":        "xn--bcher-kva",
		"%2d%5F%7e%21":             "-_~!",
	} {
		checkHost(t, s, true, want)
		checkNone(t, "%"+s, true)
		checkNone(t, s+"%", true)
	}
	for _, s := range []string{
		"%", "%%", "%%%", "a%", "%a", "%4", "a%4", "%4.com", "%g1", "%1g", "%zz", "%zz.com", "a%%41", "%%41", "%%%41", "% 41", "%+41", "%-1", "%u0041", "%x41", "%0x41", "%.", "%.41",
		"%2541", "%25", "a%25", "%25%34%31", "%2%35", "%254%31", "%%34%31", "％41", "%４１", "a％", "%EF%BC%85", "%EF%BC%8541",
		"a%20b", "%20", "%09", "a%0Ab", "a%0d", "%00", "a%00.com", "%1F", "%7F", "a%23", "a%2Fb", "a%3Ab", "a%3A80", "%3C", "%3E", "a%3Fb", "a%40b", "%5B", "a%5Cb", "%5D", "%5E", "%7C",
		"%2E", "%2e%2e", "a%2E.b", ".%61", "%ff", "%80", "a%C3", "%C3.%BC", "%C3%28", "%ED%A0%80", "%F4%90%80%80", "%EF%BF%BD", "%C0%AE", "a%C0%AEb",
		"%78n--", "xn--%61-", "%C2%ADxn--", "xn--wca",
	} {
		checkNone(t, s, true)
	}
}

// TestEachEncodedByte: each byte behind a per cent sign, in all letters that its digits may have, is what it is without.
func TestEachEncodedByte(t *testing.T) {
	for x := range 256 {
		b := string([]byte{byte(x)})
		for _, wrote := range encodings(byte(x)) {
			for _, frame := range []string{"?", "a?", "?a", "a?b", "1.2.3.?", "?.1", "a.?.b", "\xC3?", "?\xBC"} {
				plain := strings.Replace(frame, "?", b, 1)
				behind := strings.Replace(frame, "?", wrote, 1)
				want, wantErr := refParse(plain, true)
				if h, e := Parse(behind, true); x != '%' && plain[0] != '[' && (h != want || e != wantErr) {
					t.Errorf("Parse(%q): %q, %d, not %q, %d, as of %q", behind, h, e, want, wantErr, plain)
				}
				checkAny(t, behind)
				checkAny(t, plain)
			}
		}
	}
}

// encodings: x behind a per cent sign, with large and small digits.
func encodings(x byte) []string {
	const large, small = "0123456789ABCDEF", "0123456789abcdef"
	var out []string
	for _, high := range []byte{large[x>>4], small[x>>4]} {
		for _, low := range []byte{large[x&15], small[x&15]} {
			out = append(out, string([]byte{'%', high, low}))
		}
	}
	return out
}

// TestLongOnes: domain asks how long a name is behind its decoding; a host that is not special may be as long as it is.
func TestLongOnes(t *testing.T) {
	label := strings.Repeat("%41", api.MaxLabel)
	small := strings.Repeat("a", api.MaxLabel)
	checkHost(t, label, true, small)
	checkNone(t, label+"%41", true)
	checkHost(t, label+"."+label+"."+label+"%2E"+strings.Repeat("%42", api.MaxHost-3*api.MaxLabel-3), true, small+"."+small+"."+small+"."+strings.Repeat("b", api.MaxHost-3*api.MaxLabel-3))
	checkNone(t, label+"."+label+"."+label+"%2E"+strings.Repeat("%42", api.MaxHost-3*api.MaxLabel-2), true)
	const shy = "%C2%AD"
	checkHost(t, strings.Repeat(shy, api.MaxText/2-1)+"%41b", true, "ab")
	checkNone(t, strings.Repeat(shy, api.MaxText/2-1)+"%41bc", true)
	checkNone(t, strings.Repeat(shy, api.MaxText/2)+"a", true)
	for _, size := range []int{api.MaxText + 1, 1000, 1 << 16} {
		for _, fill := range []string{"a", "a.", "1", "1.", "0", "%41", "%", "\u00AD", "ü", "\xFF", ".", "0x"} {
			s := strings.Repeat(fill, size)
			checkNone(t, s, true)
			want, _ := refParse(s, false)
			checkHost(t, s, false, want)
			for _, special := range both {
				checkNone(t, "["+s, special)
				checkNone(t, "["+s+"]", special)
				checkNone(t, s+"]", special)
			}
			checkNone(t, s+"@", false)
		}
		checkHost(t, strings.Repeat("a", size), false, strings.Repeat("a", size))
		checkHost(t, strings.Repeat("\xFF", size), false, strings.Repeat("%FF", size))
	}
	checkHost(t, strings.Repeat("0", api.MaxLabel-3)+"177.1", true, "127.0.0.1")
	checkNone(t, strings.Repeat("0", api.MaxLabel-2)+"177.1", true)
}

func TestNoUTF8(t *testing.T) {
	for _, x := range []struct{ none, shown string }{
		{"\x80", "%80"}, {"\xBF", "%BF"}, {"\xC3", "%C3"}, {"\xC0\xAE", "%C0%AE"}, {"\xE3\x80", "%E3%80"}, {"\xED\xA0\x80", "%ED%A0%80"}, {"\xED\xBF\xBF", "%ED%BF%BF"},
		{"\xF0\x9F\x98", "%F0%9F%98"}, {"\xF4\x90\x80\x80", "%F4%90%80%80"}, {"\xFE", "%FE"}, {"\xFF", "%FF"}, {"\uFFFD", "%EF%BF%BD"},
	} {
		for _, s := range []string{"", "a", "a.b", "ab.", "1.2.3.4", "1.2.3.", "%41", "."} {
			checkNone(t, s+x.none, true)
			checkNone(t, x.none+s, true)
			checkNone(t, "a."+s+x.none+".1", true)
			checkHost(t, s+x.none, false, s+x.shown)
			checkHost(t, x.none+s, false, x.shown+s)
		}
		checkNone(t, x.shown, true)
		checkNone(t, "a"+x.shown+"b", true)
	}
}

// TestNumbers: of special, a name that ends in a number is one, in tens, eights, sixteens, of one part to four, and is shown in one way.
func TestNumbers(t *testing.T) {
	for s, want := range map[string]string{
		"0":                    "0.0.0.0",
		"00":                   "0.0.0.0",
		"0x":                   "0.0.0.0",
		"0X":                   "0.0.0.0",
		"1":                    "0.0.0.1",
		"255":                  "0.0.0.255",
		"256":                  "0.0.1.0",
		"4294967295":           "255.255.255.255",
		"037777777777":         "255.255.255.255",
		"0xFFFFFFFF":           "255.255.255.255",
		"0x0000000000ffffffff": "255.255.255.255",
		"2130706433":           "127.0.0.1",
		"017700000001":         "127.0.0.1",
		"0x7f000001":           "127.0.0.1",
		"0X7F000001":           "127.0.0.1",
		"127.1":                "127.0.0.1",
		"0177.1":               "127.0.0.1",
		"0x7f.1":               "127.0.0.1",
		"0x7F.0x1":             "127.0.0.1",
		"1.16777215":           "1.255.255.255",
		"255.0xffffff":         "255.255.255.255",
		"127.0.1":              "127.0.0.1",
		"1.2.65535":            "1.2.255.255",
		"1.2.0xffff":           "1.2.255.255",
		"1.2.0177777":          "1.2.255.255",
		"127.0.0.1":            "127.0.0.1",
		"1.2.3.4":              "1.2.3.4",
		"001.002.003.004":      "1.2.3.4",
		"010.010.010.010":      "8.8.8.8",
		"0x10.0x10.0x10.0x10":  "16.16.16.16",
		"10.010.0x10.0":        "10.8.16.0",
		"0x.0x.0x.0x":          "0.0.0.0",
		"0.0.0.0":              "0.0.0.0",
		"255.255.255.255":      "255.255.255.255",
		"0377.0xff.255.0XFF":   "255.255.255.255",
	} {
		for _, x := range []string{s, s + ".", s + "%2E", s + "%2e", s + "。", "\u00AD" + s, s + "%C2%AD", "\u200B" + s + ".\u200B", wide(s), encodedWhole(s), encodedWhole(wide(s)), strings.ReplaceAll(s, ".", "%2e"), strings.ReplaceAll(s, ".", "｡")} {
			checkHost(t, x, true, want)
		}
		checkHost(t, s, false, s)
		checkHost(t, s+".", false, s+".")
	}
}

// wide writes the signs of s as the ones that fold makes these.
func wide(s string) string {
	var out []rune
	for _, r := range s {
		out = append(out, r+0xFEE0)
	}
	return string(out)
}

func encodedWhole(s string) string {
	const digits = "0123456789abcdef"
	out := ""
	for i := range len(s) {
		out += string([]byte{'%', digits[s[i]>>4], digits[s[i]&15]})
	}
	return out
}

// TestEndsInNone: of special, what ends in a number and is none is no host, though it would be a name.
func TestEndsInNone(t *testing.T) {
	for _, s := range []string{
		"1.2.3.4.5", "0.0.0.0.0", "1.2.3.4.5.6", "1.1.1.1.0x", "a.1.2.3.4", "1.2.3.4.0x1",
		"256.2.3.4", "1.256.3.4", "1.2.256.4", "1.2.3.256", "1.2.65536", "256.2.3", "1.256.3", "1.16777216", "256.1", "4294967296", "0x100000000", "040000000000", "0x1.0x1000000", "1.2.0x10000", "1.2.0200000", "1.2.3.0x100", "1.2.3.0400", "999999999999", "18446744073709551616", "18446744073709551617",
		"08", "09", "1.2.3.08", "09.1", "a.08", "a.09", "1.2.3.4.08", "018", "1.080", "0178.1", "08.1.1.1", "1.08.1.1",
		"a.1", "a.0", "a.256", "a.0x", "a.0x1f", "a.b.1", "a.b.c.d.1", "example.com.1", "1.a.1", "1.2.a.4", "a.2.3.4", "0x1g.1", "-1.1", "+1.1", "1-.1", "0xg.1", "1_0.1", "x.0X0",
		"bücher.1", "xn--tda.0", "ü.0x", "1.ü.1", "a.0xffffffffffffffffff", "a.99999999999999999999",
	} {
		for _, x := range []string{s, s + ".", s + "%2E", s + "。", strings.ToUpper(s), "\u00AD" + s, encodedWhole(s)} {
			checkNone(t, x, true)
		}
		want, _ := refParse(s, false)
		checkHost(t, s, false, want)
	}
	for _, s := range []string{"1..1", "1...4", "1.2.3.4..", ".1", ".1.2.3.4", "1..", "1.2.3..4", ".0x", ". 1", "1.2.3.4 ", " 1.2.3.4", "1.2.3.4/", "1.2.3.4:80", "1.2.3.4%00", "1,2.3.4%"} {
		checkNone(t, s, true)
	}
}

// TestEndsInNoNumber: a name that seems to end in a number stays a name.
func TestEndsInNoNumber(t *testing.T) {
	for _, s := range []string{
		"1.2.3.4a", "1.2.3.a4", "1.2.3.x", "1.2.3.0xg", "1.2.3.4-", "1.2.3.-4", "1.2.3.+4", "0xg", "0x1g", "x0", "1a", "0b1", "0o7", "1_0", "1e3", "0xx1", "00x1", "10x1", "1.2.3.4.a", "1.2.3.4.5.a", "256.256.256.256.b", "0x7f.1.c", "08.a", "1.a", "1,1", "a1", "1.1.1.1x", "0xfffffffff.com",
	} {
		for _, x := range []string{s, strings.ToUpper(s), encodedWhole(s), wide(s)} {
			checkHost(t, x, true, s)
		}
		checkHost(t, s+".", true, s+".")
	}
	for s, want := range map[string]string{"1.2.3.４a": "1.2.3.4a", "1.2.3.٤": "1.2.3.xn--dib", "1.²": "1.xn--pba", "1.2.3.4.ü": "1.2.3.4.xn--tda", "1.xn--tda": "1.xn--tda"} {
		checkHost(t, s, true, want)
	}
}

// TestDecodedEnd: whether a name ends in a number is asked of what its bytes behind per cent signs, and its letters made alike, are.
func TestDecodedEnd(t *testing.T) {
	for s, want := range map[string]string{
		"%31.2.3.4": "1.2.3.4", "1.2.3.%34": "1.2.3.4", "1.2.3%2E4": "1.2.3.4", "%31": "0.0.0.1", "1%2e1": "1.0.0.1", "0%78": "0.0.0.0", "%30x7f.1": "127.0.0.1", "0%58ff": "0.0.0.255", "0x%46f": "0.0.0.255", "%30%37": "0.0.0.7", "1%30": "0.0.0.10",
		"1.%32%2e": "1.0.0.2", "１．２．３．４": "1.2.3.4", "%EF%BC%91.1": "1.0.0.1", "1。2｡3．4": "1.2.3.4", "1%E3%80%822": "1.0.0.2", "0ｘ7F.1": "127.0.0.1", "0\u00ADx7f.1": "127.0.0.1", "12\u200B7.1": "127.0.0.1", "1.2.3.4%E2%80%8B": "1.2.3.4", "1.2.3.4%EF%BB%BF%2E": "1.2.3.4",
		"1.2.3.4%61": "1.2.3.4a", "1.2.3.4%2Ea": "1.2.3.4.a", "%61.1.b": "a.1.b", "1%2D": "1-", "0%67": "0g",
	} {
		checkHost(t, s, true, want)
	}
	for _, s := range []string{"a.%31", "a%2e1", "a%2E%30%78", "1.2.3.4%2E5", "1.2.3.25%36", "0%38", "%61.08", "a.％31", "a.１", "a。1", "1.2.3.%2534", "1.2.3.4%", "1.2.3.4%2", "1.2.3.4%00", "1.2.3.4%20", "1.2.3.4%2F"} {
		checkNone(t, s, true)
	}
}

// TestBytesThatNoHostHas: each byte, in a host that is not special, alone, at the start, in the middle and at the end.
func TestBytesThatNoHostHas(t *testing.T) {
	if len(noHost) != 17 {
		t.Fatalf("%d bytes that no host has", len(noHost))
	}
	for x := range 256 {
		b := string([]byte{byte(x)})
		shown := b
		if x < 32 || x > 126 {
			shown = "%" + strings.ToUpper(strconv.FormatUint(uint64(x)|0x100, 16)[1:])
		}
		for _, frame := range []string{"?", "?a", "a?", "a?b", "?abcdefghijkl", "abcdefghijkl?", "abcdef?ghijkl", "??", "?ü?", "%41?%", "1.2.3?", "a.?.b"} {
			s := strings.ReplaceAll(frame, "?", b)
			if strings.Contains(noHost, b) {
				checkNone(t, s, false)
				continue
			}
			want := strings.ReplaceAll(strings.ReplaceAll(frame, "ü", "%C3%BC"), "?", shown)
			checkHost(t, s, false, want)
		}
	}
	for _, s := range []string{"a b", "a\tb", "a\nb", "a\rb", "a\x00b", "a#b", "a/b", "a:b", "a:80", "a<b", "a>b", "a?b", "a@b", "user@host", "a[b", "a\\b", "a]b", "a^b", "a|b", "::1", " ", "\x00", "a\x01 b", "ü/", "\xFF:", "%41 ", "a//"} {
		checkNone(t, s, false)
	}
}

// TestControl: the bytes of Control and those beside them, each but those that no host has, in a host that is not special.
func TestControl(t *testing.T) {
	for s, want := range map[string]string{
		"\x01": "%01", "\x02": "%02", "\x08": "%08", "\x0B": "%0B", "\x0C": "%0C", "\x0E": "%0E", "\x0F": "%0F", "\x10": "%10", "\x1A": "%1A", "\x1F": "%1F",
		"!": "!", "\"": "\"", "$": "$", "%": "%", "&": "&", "'": "'", "`": "`", "{": "{", "}": "}", "~": "~", "\x7F": "%7F", "\x80": "%80", "\x81": "%81", "\xAB": "%AB", "\xFE": "%FE", "\xFF": "%FF",
		"a\x01\x1F~\x7F": "a%01%1F~%7F", "ü~\x7F}": "%C3%BC~%7F}", "\x01a": "%01a",
	} {
		checkHost(t, s, false, want)
		checkHost(t, s+s, false, want+want)
		checkHost(t, "x"+s+"y", false, "x"+want+"y")
	}
}

// TestPerCentStays: in a host that is not special, per cent signs stay as they are, right ones and wrong ones.
func TestPerCentStays(t *testing.T) {
	for _, s := range []string{"%", "%%", "%4", "%41", "%2e", "%2E", "%zz", "a%20b%zz", "%00", "%ff", "%FF", "%25", "%2541", "%5B", "%5b%3A%3a1%5D", "a%", "a%4", "%3A", "%2F", "%C3%BC", "%c3%bc", "%g1", "1.2.3.%34", "%31.2.3.4", "%20", "%0a"} {
		checkHost(t, s, false, s)
		checkHost(t, s+"ü", false, s+"%C3%BC")
		checkHost(t, "\x01"+s, false, "%01"+s)
	}
}

// P9.2

func TestIP4(t *testing.T) {
	for s, want := range map[string]uint32{
		"0.0.0.0": 0, "0.0.0.1": 1, "1.0.0.0": 1 << 24, "1.2.3.4": 0x01020304, "127.0.0.1": 0x7F000001, "255.255.255.255": 0xFFFFFFFF, "10.20.30.40": 0x0A141E28, "192.168.0.1": 0xC0A80001, "100.10.1.0": 0x640A0100, "0.255.0.255": 0x00FF00FF,
	} {
		if a, is := IP4(s); a != want || !is {
			t.Errorf("IP4(%q): %#x, %t, not %#x", s, a, is, want)
		}
		checkOwn(t, s, true)
		checkOwn(t, s, false)
	}
	for _, s := range []string{
		"", "a", "a.com", "example.com.", "localhost", "xn--tda", "1.2.3.4.com", "1.2.3.a", "0xg", "a.1.b", // names
		"[::]", "[::1]", "[::102:304]", "[::ffff:7f00:1]", "[1:2:3:4:5:6:7:8]", // long numbers
		".", "%", "%31.2.3.4", "1.2.3.%34", "A.com", "1.2.3.4.5", "256.1.1.1", "1.2.3.256", "a.1", "08", "%01", "1.2.3.4%", "1..2", "-1", // what is not special
		"1", "0", "0x", "127.1", "1.2.3", "0x7f.1", "0x7f000001", "2130706433", "0177.0.0.1", "010.0.0.1", "1.2.3.04", "00.0.0.0", "0x1.2.3.4", "1.2.3.4.", "0.0.0.0.", "1.", // not special, and looks like a number that would be shown otherwise
	} {
		if a, is := IP4(s); a != 0 || is {
			t.Errorf("IP4(%q): %#x, %t", s, a, is)
		}
	}
}

func TestIP6(t *testing.T) {
	for s, want := range map[string][8]uint16{
		"[::]": {}, "[::1]": {7: 1}, "[1::]": {0: 1}, "[1::8]": {0: 1, 7: 8}, "[1:2:3:4:5:6:7:8]": {1, 2, 3, 4, 5, 6, 7, 8}, "[2001:db8::abcd]": {0: 0x2001, 1: 0xdb8, 7: 0xabcd}, "[::ffff:7f00:1]": {5: 0xffff, 6: 0x7f00, 7: 1}, "[::102:304]": {6: 0x102, 7: 0x304},
		"[fe80::1]": {0: 0xfe80, 7: 1}, "[ffff:ffff:ffff:ffff:ffff:ffff:ffff:ffff]": {0xffff, 0xffff, 0xffff, 0xffff, 0xffff, 0xffff, 0xffff, 0xffff}, "[1:0:0:4::8]": {0: 1, 3: 4, 7: 8}, "[0:2:3:4:5:6:7:8]": {0, 2, 3, 4, 5, 6, 7, 8},
	} {
		if a, is := IP6(s); a != want || !is {
			t.Errorf("IP6(%q): %x, %t, not %x", s, a, is, want)
		}
		checkOwn(t, s, true)
		checkOwn(t, s, false)
	}
	for _, s := range []string{
		"", "a", "a.com", "example.com.", "xn--tda", "abcd", "1", // names
		"0.0.0.0", "1.2.3.4", "127.0.0.1", "255.255.255.255", // numbers
		".", "%", "%5B::1%5D", "%5B", "A", "0x7f.1", "%01", "b%C3%BC", // what is not special
		"[", "]", "[]", "[[", "]]", "[::", "[::1", "::1]", "::1", "::", "1:2:3:4:5:6:7:8", "[a.com]", "[1.2.3.4]", "[::g]", "[::1]]", "[[::1]", "[[::1]]", "[::1].", "[::1]a", "a[::1]", " [::1]", "[::1] ", "[:::]", "[::1%1]", "(::1)", // what no host is
		"[::01]", "[::A]", "[0:0:0:0:0:0:0:1]", "[::1.2.3.4]", "[1:0::8]", "[::0]", "[1::3:4:5:6:7:8]", // what Parse shows otherwise
	} {
		if a, is := IP6(s); a != [8]uint16{} || is {
			t.Errorf("IP6(%q): %x, %t", s, a, is)
		}
	}
}

// TestNumbersOfParsed: which number a host is, of each spelling that Parse takes.
func TestNumbersOfParsed(t *testing.T) {
	for _, s := range []string{"0x7f.1", "127.1", "2130706433", "%31%32%37.1", "0177.0.0.1.", "１２７．１", "127。0。0。1"} {
		h, _ := Parse(s, true)
		if a, is := IP4(h); a != 0x7F000001 || !is {
			t.Errorf("IP4(%q), of %q: %#x, %t", h, s, a, is)
		}
		if a, is := IP6(h); a != [8]uint16{} || is {
			t.Errorf("IP6(%q), of %q: %x, %t", h, s, a, is)
		}
		other, _ := Parse(s, false)
		if a, is := IP4(other); a != 0 || is {
			t.Errorf("IP4(%q), which is not special: %#x, %t", other, a, is)
		}
	}
	for between := range spellings {
		for _, special := range both {
			h, _ := Parse("["+between+"]", special)
			want, _ := refIP6(h)
			if a, is := IP6(h); a != want || !is {
				t.Errorf("IP6(%q), of [%s]: %x, %t, not %x", h, between, a, is, want)
			}
			if a, is := IP4(h); a != 0 || is {
				t.Errorf("IP4(%q), of [%s]: %#x, %t", h, between, a, is)
			}
		}
	}
	// One text stands for both kinds here, and it can't be told which it was.
	h, _ := Parse("127.0.0.1", false)
	if a, is := IP4(h); a != 0x7F000001 || !is {
		t.Errorf("IP4(%q), which is not special: %#x, %t", h, a, is)
	}
}

// R1 to R4, and what follows

// TestShortTexts: all texts of few signs.
func TestShortTexts(t *testing.T) {
	var walk func(s, signs string, left int)
	walk = func(s, signs string, left int) {
		checkAny(t, s)
		if left > 0 {
			for i := range len(signs) {
				walk(s+signs[i:i+1], signs, left-1)
			}
		}
	}
	walk("", "[:1.]", 6)
	walk("[", "]:1.", 6)
	walk("", "%41.a", 6)
	walk("1.", "%3.xA0", 5)
	walk("", "01x.8", 6)
	walk("xn--", "ab-%", 3)
	walk("a", "%2eE5\xC3\xBC", 5)
	for x := range 256 {
		for y := range 256 {
			checkAny(t, string([]byte{byte(x), byte(y)}))
		}
	}
}

var seeds = []string{
	"", "a", "a.com", "A.b.C.", "%41.com", "0x7f.1", "1.2.3.4", "1.2.3.4.", "1.2.3.4.5", "a.1", "a.08", "%31.2.3.4", "[::1]", "[::", "[]", "[1:2:3:4:5:6:7:8]", "[::ffff:1.2.3.4]", "[2001:DB8::1]", "bücher.de", "b%C3%BCcher.de", "xn--bcher-kva", "xn--", "１．２．３．４", "a b", "a@b", "a\x01\x7F", "a%zz", "\xFF\xFE", "\u00AD", ".", "a..b", "4294967295", "037777777777",
}

// randomText tells parts at random, or a seed with some of its bytes changed, left out or put in.
func randomText(r *rand.Rand) string {
	parts := []string{"a", "B", "com", "1", "0", "0x", "255", "256", "08", "7f", ".", ".", ".", "%2e", "%31", "%41", "ü", "%C3%BC", "。", "\u00AD", "xn--", "xn--tda", "::", ":", "[", "]", "%", "%zz", "%00", "\xFF", "~", "\x7F", "\x01", " ", "@", "^"}
	if r.Intn(2) == 0 {
		n := len(parts)
		if r.Intn(3) > 0 {
			n -= 13 // without those that make most hosts none
		}
		var b strings.Builder
		for range 1 + r.Intn(8) {
			b.WriteString(parts[r.Intn(n)])
		}
		return b.String()
	}
	const signs = ".%:[]0123456789abcdefxABX-\x00\x1F\x7F\xC3\xBC~ "
	b := []byte(seeds[r.Intn(len(seeds))])
	for range r.Intn(4) {
		at := r.Intn(len(b) + 1)
		to := at
		if at < len(b) && r.Intn(3) > 0 {
			to++
		}
		put := signs[r.Intn(len(signs)):][:1]
		if to > at && r.Intn(2) == 0 {
			put = ""
		}
		b = []byte(string(b[:at]) + put + string(b[to:]))
	}
	return string(b)
}

func TestRandomTexts(t *testing.T) {
	r := rand.New(rand.NewSource(9))
	var names, numbers, longs, others int
	for range 200000 {
		s := randomText(r)
		checkAny(t, s)
		h, e := Parse(s, true)
		_, is4 := IP4(h)
		_, is6 := IP6(h)
		switch {
		case e != api.OK:
		case is4:
			numbers++
		case is6:
			longs++
		default:
			names++
		}
		if _, e := Parse(s, false); e == api.OK {
			others++
		}
	}
	if names < 10000 || numbers < 10000 || longs < 3000 || others < 50000 {
		t.Errorf("of the texts only %d were names, %d numbers, %d long numbers, %d others", names, numbers, longs, others)
	}
}

func TestRandomBytes(t *testing.T) {
	r := rand.New(rand.NewSource(99))
	for range 50000 {
		b := make([]byte, r.Intn(12))
		for i := range b {
			b[i] = byte(r.Intn(256))
		}
		checkAny(t, string(b))
	}
}

// TestMemory: a text that shares its bytes with a buffer is not changed, spare room neither, and is not kept; what is told is new memory.
func TestMemory(t *testing.T) {
	for _, s := range seeds[1:] {
		for _, special := range both {
			room := []byte("##" + s + "##")
			handed := unsafe.String(&room[2], len(s))
			h, e := Parse(handed, special)
			_, _ = IP4(handed)
			_, _ = IP6(handed)
			if string(room) != "##"+s+"##" {
				t.Errorf("%q was changed: %q", s, room)
			}
			kept := strings.Clone(h)
			for i := range room {
				room[i] = 'q'
			}
			if again, eAgain := Parse(s, special); h != kept || again != h || eAgain != e {
				t.Errorf("Parse(%q, %t): %q, %d, then %q, %d", s, special, kept, e, again, eAgain)
			}
		}
	}
}

// TestOneAfterAnother: what was asked ahead is not told.
func TestOneAfterAnother(t *testing.T) {
	checkHost(t, "[1:2:3:4:5:6:7:8]", true, "[1:2:3:4:5:6:7:8]")
	checkNone(t, "[1:2:3:4:5:6:7]", true)
	checkHost(t, "0x7f.1", true, "127.0.0.1")
	checkHost(t, "0x7f.1", false, "0x7f.1")
	checkHost(t, "0x7f.1", true, "127.0.0.1")
	checkNone(t, "", true)
	checkHost(t, "", false, "")
	checkHost(t, "a.com", true, "a.com")
	checkNone(t, "a com", false)
	checkHost(t, "[::]", false, "[::]")
}

func FuzzParse(f *testing.F) {
	for _, s := range seeds {
		f.Add(s)
	}
	f.Fuzz(func(t *testing.T, s string) { checkAny(t, s) })
}
