package url

import (
	"fmt"
	"math/rand"
	"reflect"
	"slices"
	"strconv"
	"strings"
	"testing"
	"unsafe"

	"shortcut/api"
	"shortcut/host"
)

var (
	specials = []string{"http", "https", "ws", "wss", "ftp"}
	others   = []string{"x", "mailto", "file", "httpx", "htt", "h", "wsss", "ftps", "data", "a+b-c.1"}
)

// alike holds two addresses against each other without asking Same; an empty path and none are one.
func alike(a, b api.URL) bool {
	if len(a.Path) == 0 && len(b.Path) == 0 {
		a.Path, b.Path = nil, nil
	}
	return reflect.DeepEqual(a, b)
}

// address tells what s is parsed to, and fails the test if s is none.
func address(t *testing.T, s string, base *api.URL) api.URL {
	t.Helper()
	u, e := Parse(s, base)
	if e != api.OK {
		t.Fatalf("Parse(%q, %s): %d", s, shown(base), e)
	}
	return u
}

// from tells the base that is written s; of a text of no bytes there is none.
func from(t *testing.T, s string) *api.URL {
	t.Helper()
	if s == "" {
		return nil
	}
	u := address(t, s, nil)
	return &u
}

func shown(base *api.URL) string {
	if base == nil {
		return "no base"
	}
	return refShow(*base)
}

// checkURL holds Parse of s, from base, against each part of want, and what follows of that.
func checkURL(t *testing.T, s string, base *api.URL, want api.URL) {
	t.Helper()
	u, e := Parse(s, base)
	if e != api.OK || !alike(u, want) {
		t.Errorf("Parse(%q, %s): %+v, %d, not %+v", s, shown(base), u, e, want)
		return
	}
	checkBack(t, u)
}

// checkText holds the text of what s is parsed to, with no base, against want.
func checkText(t *testing.T, s, want string) {
	t.Helper()
	checkFrom(t, "", s, want)
}

// checkFrom holds the text of what s is parsed to, from the address that is written base, against want.
func checkFrom(t *testing.T, base, s, want string) {
	t.Helper()
	u, e := Parse(s, from(t, base))
	if got := Show(u); e != api.OK || got != want {
		t.Errorf("Parse(%q), from %q: %s, %d, not %s", s, base, got, e, want)
		return
	}
	checkBack(t, u)
}

// checkNone: s is no address with no base, and beside the error is nothing.
func checkNone(t *testing.T, s string, want api.Errno) {
	t.Helper()
	checkNoneFrom(t, "", s, want)
}

func checkNoneFrom(t *testing.T, base, s string, want api.Errno) {
	t.Helper()
	u, e := Parse(s, from(t, base))
	if e != want || !reflect.DeepEqual(u, api.URL{}) {
		t.Errorf("Parse(%q), from %q: %+v, %d, not %d", s, base, u, e, want)
	}
}

// around: addresses from which one that is whole is parsed as from none.
var around = []string{"http://b:81/c/d?e#f", "https://b/c", "ftp://b", "x:b?c#d", "x:/b/c", "x://b:9/c?d", "y://"}

// checkBack: what is shown is parsed as it was, alone and from other addresses, and shown as it was.
func checkBack(t *testing.T, u api.URL) {
	t.Helper()
	text := Show(u)
	if len(text) > api.MaxText {
		return
	}
	for _, base := range append([]string{""}, around...) {
		again, e := Parse(text, from(t, base))
		if e != api.OK || !alike(again, u) || Show(again) != text {
			t.Errorf("%+v is shown as %q, and parsed, from %q, as %+v, %d", u, text, base, again, e)
		}
	}
}

// checkAny holds Parse of s, from base, and Show of that, against the references.
func checkAny(t *testing.T, s string, base *api.URL) {
	t.Helper()
	want, wantErr := refParse(s, base)
	u, e := Parse(s, base)
	if e != wantErr || !alike(u, want) {
		t.Errorf("Parse(%q, %s): %+v, %d, not %+v, %d", s, shown(base), u, e, want, wantErr)
	}
	if e != api.OK {
		return
	}
	if got := Show(u); got != refShow(u) {
		t.Errorf("Show(%+v): %q, not %q", u, got, refShow(u))
	}
	if len(refShow(u)) <= api.MaxText {
		if again, e := Parse(refShow(u), base); e != api.OK || !alike(again, u) {
			t.Errorf("%q, from %s: %+v, is parsed again as %+v, %d", s, shown(base), u, again, e)
		}
	}
}

// P12.1: the whole

func TestExample(t *testing.T) {
	checkURL(t, "HTTP://a:80/b/../c", nil, api.URL{Scheme: "http", Host: "a", Has: true, Port: -1, Path: []string{"c"}})
	checkText(t, "HTTP://a:80/b/../c", "http://a/c")
}

func TestParts(t *testing.T) {
	checkURL(t, "https://Example.COM:8080/a/b c/?x=1&y=2#top", nil, api.URL{Scheme: "https", Host: "example.com", Has: true, Port: 8080, Path: []string{"a", "b%20c", ""}, Query: "x=1&y=2", Asks: true, Fragment: "top", Marks: true})
	checkURL(t, "ftp://a", nil, api.URL{Scheme: "ftp", Host: "a", Has: true, Port: -1, Path: []string{""}})
	checkURL(t, "ws://[::0:1]:0?#", nil, api.URL{Scheme: "ws", Host: "[::1]", Has: true, Port: 0, Path: []string{""}, Asks: true, Marks: true})
	checkURL(t, "X://Ab:80", nil, api.URL{Scheme: "x", Host: "Ab", Has: true, Port: 80})
	checkURL(t, "x://", nil, api.URL{Scheme: "x", Has: true, Port: -1})
	checkURL(t, "x:///", nil, api.URL{Scheme: "x", Has: true, Port: -1, Path: []string{""}})
	checkURL(t, "x:/a/b", nil, api.URL{Scheme: "x", Port: -1, Path: []string{"a", "b"}})
	checkURL(t, "x:/", nil, api.URL{Scheme: "x", Port: -1, Path: []string{""}})
	checkURL(t, "x:", nil, api.URL{Scheme: "x", Port: -1, Opaque: true, Path: []string{""}})
	checkURL(t, "mailto:A B@c/../d?e#f", nil, api.URL{Scheme: "mailto", Port: -1, Opaque: true, Path: []string{"A B@c/../d"}, Query: "e", Asks: true, Fragment: "f", Marks: true})
	base := from(t, "http://a:81/b/c?q#f")
	checkURL(t, "d", base, api.URL{Scheme: "http", Host: "a", Has: true, Port: 81, Path: []string{"b", "d"}})
	checkURL(t, "", base, api.URL{Scheme: "http", Host: "a", Has: true, Port: 81, Path: []string{"b", "c"}, Query: "q", Asks: true})
	checkURL(t, "d", from(t, "x:/b/c"), api.URL{Scheme: "x", Port: -1, Path: []string{"b", "d"}})
	checkURL(t, "#g", from(t, "x:a?q#f"), api.URL{Scheme: "x", Port: -1, Opaque: true, Path: []string{"a"}, Query: "q", Asks: true, Fragment: "g", Marks: true})
}

func TestOrdinaryAddresses(t *testing.T) {
	for s, want := range map[string]string{
		"http://example.com":                            "http://example.com/",
		"http://example.com/":                           "http://example.com/",
		"https://www.Example.com/Way/To.html?q=a+b#Top": "https://www.example.com/Way/To.html?q=a+b#Top",
		"http://bücher.de/ä?ö#ü":                        "http://xn--bcher-kva.de/%C3%A4?%C3%B6#%C3%BC",
		"http://%41.com/%41":                            "http://a.com/%41",
		"http://0x7f.1:8080":                            "http://127.0.0.1:8080/",
		"http://[2001:DB8::1]/a":                        "http://[2001:db8::1]/a",
		"ftp://files/a/./b/../c/":                       "ftp://files/a/c/",
		"ws://chat:80/room":                             "ws://chat/room",
		"mailto:me@example.com":                         "mailto:me@example.com",
		"tel:+1-816-555-1212":                           "tel:+1-816-555-1212",
		"urn:isbn:0451450523":                           "urn:isbn:0451450523",
		"data:text/plain,a b":                           "data:text/plain,a b",
		"file:///etc/hosts":                             "file:///etc/hosts",
		"file://Host/a/../b":                            "file://Host/b",
		"ssh://Host:22/a\\b":                            "ssh://Host:22/a\\b",
		"javascript:alert(1)":                           "javascript:alert(1)",
	} {
		checkText(t, s, want)
	}
}

func TestLongest(t *testing.T) {
	if api.MaxText != 400 {
		t.Errorf("MaxText: %d", api.MaxText)
	}
	for _, s := range []string{"http://a/", "x:", "x:/", "x://h/", "http://a/?", "http://a/#", "x:?", "x://"} {
		most := s + strings.Repeat("b", api.MaxText-len(s))
		checkText(t, most, most)
		checkNone(t, most+"b", api.ErrLong)
		checkNoneFrom(t, "http://a/", most+"b", api.ErrLong)
	}
	// Bytes count, and all of them, those that are left out too.
	most := "x:" + strings.Repeat("ü", 199)
	checkURL(t, most, nil, api.URL{Scheme: "x", Port: -1, Opaque: true, Path: []string{strings.Repeat("%C3%BC", 199)}})
	checkNone(t, most+"a", api.ErrLong)
	for _, blank := range []string{" ", "\t", "\n", "\r", "\x00"} {
		for n := range 3 {
			s := strings.Repeat(blank, 396-n) + "x:/a" + strings.Repeat(blank, n)
			checkText(t, s, "x:/a")
			checkNone(t, s+blank, api.ErrLong)
			checkNone(t, blank+s, api.ErrLong)
		}
	}
	checkText(t, "x:"+strings.Repeat("\n", 397)+"a", "x:a")
	checkNone(t, "x:"+strings.Repeat("\n", 398)+"a", api.ErrLong)
	checkFrom(t, "http://a/b", strings.Repeat("c", 400), "http://a/"+strings.Repeat("c", 400))
	checkFrom(t, "http://a/b", strings.Repeat(" ", 400), "http://a/b")
	checkNoneFrom(t, "http://a/b", strings.Repeat(" ", 401), api.ErrLong)
	checkNone(t, strings.Repeat("a", 1<<20), api.ErrLong)
}

// Step 1

// TestEnds: bytes up to 32 at both ends are left out, and no others.
func TestEnds(t *testing.T) {
	for x := range 256 {
		b := string([]byte{byte(x)})
		for _, n := range []int{1, 2, 5} {
			row := strings.Repeat(b, n)
			if x <= 32 {
				checkText(t, row+"http://a/b", "http://a/b")
				checkText(t, "http://a/b"+row, "http://a/b")
				checkText(t, row+"http://a/b"+row, "http://a/b")
				checkText(t, " \x00\x1F"+row+"x:a\t"+row+"\n", "x:a")
				checkFrom(t, "http://a/b/c", row+"d"+row, "http://a/b/d")
				checkFrom(t, "http://a/b/c", row, "http://a/b/c")
				checkFrom(t, "x:a", row+"#"+row+"b"+row, "x:a#"+refEncode(strings.Trim(row, "\t\n\r"), refFragment)+"b")
			} else {
				checkText(t, "x:a#"+row, "x:a#"+refEncode(row, refFragment))
				checkText(t, "x:a#"+row+" ", "x:a#"+refEncode(row, refFragment))
			}
			if x > 32 && !isLetter(byte(x)) {
				checkNone(t, row+"http://a/b", api.ErrForm)
				checkNone(t, " "+row+"http://a/b", api.ErrForm)
			}
		}
	}
	checkText(t, "x:/a\u00A0", "x:/a%C2%A0")
	checkText(t, "x:/a\u0085", "x:/a%C2%85")
	checkText(t, "x:/a\u2028", "x:/a%E2%80%A8")
	checkText(t, "x:/a\x7F", "x:/a%7F")
	checkNone(t, "\uFEFFx:/a", api.ErrForm)
}

// TestTextOfNothing: of no bytes, and of none that stay.
func TestTextOfNothing(t *testing.T) {
	for _, s := range []string{"", " ", "\t", "\n", "\r", "\r\n", "\x00", "\x1F", " \t \n \r \x0B\x00 "} {
		checkNone(t, s, api.ErrForm)
		checkFrom(t, "http://a/b?c#d", s, "http://a/b?c")
		checkFrom(t, "x://a", s, "x://a")
		checkNoneFrom(t, "x:a", s, api.ErrForm)
	}
}

// TestLinesAnywhere: tabs and line ends are left out wherever they stand; other bytes up to 32 stay within.
func TestLinesAnywhere(t *testing.T) {
	for s, want := range map[string]string{
		"http://a.com:8080/b/..%2e/c?d#e": "http://a.com:8080/b/..%2e/c?d#e", "HTTP://[::1]:80/": "http://[::1]/", "x:/.//p": "x:/.//p", "x:a b": "x:a b", "x://h:65535": "x://h:65535", `ws:\\a\b`: "ws://a/b", "ftp://%41%C3%BC/%2e./": "ftp://xn--a-eha/",
	} {
		for _, blank := range []string{"\t", "\n", "\r", "\r\n", "\t\t\r\n"} {
			for i := range len(s) + 1 {
				checkText(t, s[:i]+blank+s[i:], want)
			}
			checkText(t, strings.Join(strings.Split(s, ""), blank), want)
		}
	}
	for i := range len("ab/c?d#e") + 1 {
		s := "ab/c?d#e"
		checkFrom(t, "http://h/x", s[:i]+"\n"+s[i:], "http://h/ab/c?d#e")
	}
	// What is put together by leaving out is read as if it had stood so.
	checkText(t, "x\n:\n/\n/\nh", "x://h")
	checkText(t, "ht\ntp:\t/\r/a", "http://a/")
	checkText(t, "http://a:8\n0", "http://a/")
	checkText(t, "http://\ta\n", "http://a/")
	checkText(t, "http://a/b/.\n./c", "http://a/c")
	checkText(t, "http://a/%\n41", "http://a/%41")
	checkText(t, "http://b%C3\n%BCcher", "http://xn--bcher-kva/")
	checkText(t, "http://a/\xC3\n\xBC", "http://a/%C3%BC")
	// They are left out behind the ends: what stood between one of them and an end stays no end.
	checkText(t, "x:a\t \n", "x:a")
	checkText(t, "x:a \tb", "x:a b")
	for x := range 33 {
		b := string([]byte{byte(x)})
		if strings.Contains("\t\n\r", b) {
			continue
		}
		written := fmt.Sprintf("%%%02X", x)
		checkText(t, "http://a/b"+b+"c?d"+b+"e#f"+b+"g", "http://a/b"+written+"c?d"+written+"e#f"+written+"g")
		checkNone(t, "http://a"+b+"b/", api.ErrHost)
		checkNone(t, "http://a:8"+b+"0/", api.ErrPort)
		checkNone(t, "ht"+b+"tp://a/", api.ErrForm)
		if x != ' ' {
			written = refEncode(b, refControl)
			checkText(t, "x:a"+b+"b", "x:a"+written+"b")
		}
	}
}

// Step 2

func isSign(x int) bool {
	return strings.Contains("ABCDEFGHIJKLMNOPQRSTUVWXYZabcdefghijklmnopqrstuvwxyz0123456789+-.", string(rune(x)))
}

func TestSchemeSigns(t *testing.T) {
	for x := range 256 {
		b := string([]byte{byte(x)})
		if strings.Contains("\t\n\r", b) {
			continue
		}
		small := strings.ToLower(b)
		if isSign(x) {
			checkText(t, "y"+b+":/a", "y"+small+":/a")
			checkText(t, "Y"+b+b+"Z:a", "y"+small+small+"z:a")
			if small != "s" {
				checkText(t, "http"+b+":a", "http"+small+":a")
			}
			checkFrom(t, "http://h/", "y"+b+":a", "y"+small+":a")
		} else if b != ":" {
			checkNone(t, "y"+b+":/a", api.ErrForm)
			checkNone(t, "y"+b+"z:/a", api.ErrForm)
			checkNone(t, "http"+b+"://a/", api.ErrForm)
			checkAny(t, "y"+b+":a", from(t, "http://h/"))
			checkAny(t, "y"+b+":a", from(t, "x:/"))
		}
		if isLetter(byte(x)) {
			checkText(t, b+":/a", small+":/a")
			checkText(t, b+"1+-.:a", small+"1+-.:a")
		} else if x > 32 {
			checkNone(t, b+":/a", api.ErrForm)
			checkNone(t, b+"http://a/", api.ErrForm)
			checkAny(t, b+"y:a", from(t, "http://h/"))
		}
	}
}

func TestSchemes(t *testing.T) {
	for _, scheme := range specials {
		for _, s := range []string{scheme, strings.ToUpper(scheme), strings.ToUpper(scheme[:1]) + scheme[1:], scheme[:1] + strings.ToUpper(scheme[1:])} {
			checkText(t, s+"://A/b", scheme+"://a/b")
			checkText(t, s+":a\\b", scheme+"://a/b")
			checkFrom(t, "x:/c", s+":a", scheme+"://a/")
		}
	}
	for _, scheme := range others {
		for _, s := range []string{scheme, strings.ToUpper(scheme), strings.ToUpper(scheme[:1]) + scheme[1:]} {
			checkText(t, s+"://A/b", scheme+"://A/b")
			checkText(t, s+":a\\b", scheme+":a\\b")
			checkFrom(t, "http://h/", s+":a", scheme+":a")
		}
	}
	long := strings.Repeat("aB1+-.", 66)
	checkText(t, long+":ab", strings.ToLower(long)+":ab")
	// The first colon ends it.
	checkText(t, "a:b:c", "a:b:c")
	checkText(t, "http:http://a", "http://http//a")
	checkText(t, "x:http://a", "x:http://a")
	checkText(t, "a::", "a::")
}

// TestNoScheme: of what has none, there is no address without a base; from one it is relative.
func TestNoScheme(t *testing.T) {
	for s, want := range map[string]string{
		"": "http://h/a?q", "b": "http://h/b", ":": "http://h/:", "::": "http://h/::", ":a": "http://h/:a", ":80": "http://h/:80", "//b": "http://b/", "/": "http://h/", "/b": "http://h/b", "\\b": "http://h/b", "?b": "http://h/a?b", "#b": "http://h/a?q#b",
		"1x:b": "http://h/1x:b", "1:b": "http://h/1:b", "+x:b": "http://h/+x:b", "-:b": "http://h/-:b", ".x:b": "http://h/.x:b", "ü:b": "http://h/%C3%BC:b", "xü:b": "http://h/x%C3%BC:b", "x_y:b": "http://h/x_y:b", "x y:b": "http://h/x%20y:b", "x%41:b": "http://h/x%41:b", "http": "http://h/http", "http//a": "http://h/http//a",
		"x/y:b": "http://h/x/y:b", "x?y:b": "http://h/x?y:b", "x#y:b": "http://h/x#y:b", "?x:b": "http://h/a?x:b", "#x:b": "http://h/a?q#x:b", "/x:b": "http://h/x:b", "\\x:b": "http://h/x:b", "x\\y:b": "http://h/x/y:b", "./x:b": "http://h/x:b", "x*:b": "http://h/x*:b", "x@y:b": "http://h/x@y:b", "[x:b": "http://h/[x:b",
		"x；b": "http://h/x%EF%BC%9Bb", "x：b": "http://h/x%EF%BC%9Ab", "ｘ:b": "http://h/%EF%BD%98:b", "\u212A:b": "http://h/%E2%84%AA:b", "\u017F:b": "http://h/%C5%BF:b", "http%3A//a": "http://h/http%3A//a", "\xff:b": "http://h/%FF:b",
	} {
		checkNone(t, s, api.ErrForm)
		checkFrom(t, "http://h/a?q#f", s, want)
		if !strings.HasPrefix(s, "#") {
			checkNoneFrom(t, "x:a", s, api.ErrForm)
		}
	}
}

// Step 3

func TestQuestionAndFragment(t *testing.T) {
	for s, want := range map[string]api.URL{
		"":        {},
		"?":       {Asks: true},
		"#":       {Marks: true},
		"?#":      {Asks: true, Marks: true},
		"#?":      {Marks: true, Fragment: "?"},
		"?a":      {Asks: true, Query: "a"},
		"#a":      {Marks: true, Fragment: "a"},
		"?a#b":    {Asks: true, Query: "a", Marks: true, Fragment: "b"},
		"#a?b":    {Marks: true, Fragment: "a?b"},
		"?a#":     {Asks: true, Query: "a", Marks: true},
		"?#b":     {Asks: true, Marks: true, Fragment: "b"},
		"??":      {Asks: true, Query: "?"},
		"##":      {Marks: true, Fragment: "#"},
		"???":     {Asks: true, Query: "??"},
		"###":     {Marks: true, Fragment: "##"},
		"?a?b":    {Asks: true, Query: "a?b"},
		"#a#b":    {Marks: true, Fragment: "a#b"},
		"?a?b#c":  {Asks: true, Query: "a?b", Marks: true, Fragment: "c"},
		"?a#b?c":  {Asks: true, Query: "a", Marks: true, Fragment: "b?c"},
		"?a#b#c":  {Asks: true, Query: "a", Marks: true, Fragment: "b#c"},
		"#a?b#c":  {Marks: true, Fragment: "a?b#c"},
		"?##?":    {Asks: true, Marks: true, Fragment: "#?"},
		"#?#?":    {Marks: true, Fragment: "?#?"},
		"?/a//b":  {Asks: true, Query: "/a//b"},
		"#/a//b":  {Marks: true, Fragment: "/a//b"},
		"?\\#\\":  {Asks: true, Query: "\\", Marks: true, Fragment: "\\"},
		"?@:#@:":  {Asks: true, Query: "@:", Marks: true, Fragment: "@:"},
		"?..#../": {Asks: true, Query: "..", Marks: true, Fragment: "../"},
		"?x:y#z:": {Asks: true, Query: "x:y", Marks: true, Fragment: "z:"},
	} {
		for ahead, u := range map[string]api.URL{
			"http://a":   {Scheme: "http", Host: "a", Has: true, Port: -1, Path: []string{""}},
			"http:a:9":   {Scheme: "http", Host: "a", Has: true, Port: 9, Path: []string{""}},
			"http://a/":  {Scheme: "http", Host: "a", Has: true, Port: -1, Path: []string{""}},
			"http://a/b": {Scheme: "http", Host: "a", Has: true, Port: -1, Path: []string{"b"}},
			"x://a":      {Scheme: "x", Host: "a", Has: true, Port: -1},
			"x://a/b":    {Scheme: "x", Host: "a", Has: true, Port: -1, Path: []string{"b"}},
			"x:/b":       {Scheme: "x", Port: -1, Path: []string{"b"}},
			"x:b":        {Scheme: "x", Port: -1, Opaque: true, Path: []string{"b"}},
			"x:":         {Scheme: "x", Port: -1, Opaque: true, Path: []string{""}},
			"x://":       {Scheme: "x", Has: true, Port: -1},
		} {
			u.Query, u.Asks, u.Fragment, u.Marks = want.Query, want.Asks, want.Fragment, want.Marks
			checkURL(t, ahead+s, nil, u)
		}
	}
	// They cut ahead of all else.
	checkNone(t, "http:?//a", api.ErrHost)
	checkNone(t, "http://?a", api.ErrHost)
	checkNone(t, "http://#a", api.ErrHost)
	checkText(t, "http://a?@b", "http://a/?@b")
	checkText(t, "http://a#@b:x", "http://a/#@b:x")
	checkText(t, "http://[::1]?]", "http://[::1]/?]")
	checkNone(t, "http://[::?1]", api.ErrHost)
	checkText(t, "x:?//a", "x:?//a")
	checkText(t, "x:/?/a", "x:/?/a")
	checkText(t, "x:/#/a", "x:/#/a")
	checkFrom(t, "http://a/b", "c?d/../e#/../f", "http://a/c?d/../e#/../f")
}

// TestOtherStroke: of a special scheme it is a stroke, of another one a sign as any other.
func TestOtherStroke(t *testing.T) {
	for s, want := range map[string]string{
		`//a/b\c`: "a/b/c", `\\a\b\c`: "a/b/c", `/\a\b/c`: "a/b/c", `\/a/b\c`: "a/b/c", `\\a`: "a/", `\a\b`: "a/b", `\\\\a/b`: "a/b", `\/\/a\/b`: "a//b", `a\`: "a/", `a\\`: "a//", `\a\..\b`: "a/b", `//a\b?\#\`: `a/b?\#\`, `//a:99\b`: "a:99/b", `//a\@b`: "a/@b", `//a\:x`: "a/:x",
	} {
		for _, scheme := range specials {
			checkText(t, scheme+":"+s, scheme+"://"+want)
		}
	}
	for s, want := range map[string]string{
		`\\a\b`: `\\a\b`, `\a`: `\a`, `a\b`: `a\b`, `/\a`: `/\a`, `/a\..\b`: `/a\..\b`, `\/a`: `\/a`, `//a/b\c`: `//a/b\c`, `/a/..\b`: `/a/..\b`, `/\..`: `/\..`, `?\`: `?\`, `#\`: `#\`, `///\`: `///\`,
	} {
		checkText(t, "x:"+s, "x:"+want)
	}
	checkNone(t, `x://a\b`, api.ErrHost)
	checkNone(t, `x://\`, api.ErrHost)
	checkNone(t, `x://a:8\`, api.ErrPort)
	checkText(t, "http://a/b%5Cc%5cd", "http://a/b%5Cc%5cd")
	checkNone(t, "http://a%5Cb", api.ErrHost)
	for s, want := range map[string]string{
		`\d`: "http://a:9/d", `\\d`: "http://d/", `/\d\e`: "http://d/e", `\/d`: "http://d/", `d\e`: "http://a:9/b/d/e", `..\d`: "http://a:9/d", `.\`: "http://a:9/b/", `\`: "http://a:9/", `http:\d`: "http://a:9/d", `http:\\d`: "http://d/", `http:/\d`: "http://d/", `http:\/d`: "http://d/", `http:d\e`: "http://a:9/b/d/e", `\..\..\d`: "http://a:9/d", `\\\d`: "",
	} {
		if want == "" {
			checkNoneFrom(t, "http://a:9/b/c", s, api.ErrHost)
		} else {
			checkFrom(t, "http://a:9/b/c", s, want)
		}
	}
	for s, want := range map[string]string{
		`\d`: `x://a/b/\d`, `\\d`: `x://a/b/\\d`, `/\d`: `x://a/\d`, `d\e`: `x://a/b/d\e`, `..\d`: `x://a/b/..\d`, `../\d`: `x://a/\d`, `\`: `x://a/b/\`,
	} {
		checkFrom(t, "x://a/b/c", s, want)
	}
}

// Step 4

func TestOpaqueBase(t *testing.T) {
	for base, front := range map[string]string{"x:a": "x:a", "x:a#f": "x:a", "x:a?q": "x:a?q", "x:a?#": "x:a?", "x:a?q#f": "x:a?q", "x:": "x:", "x:?": "x:?", "x:a b/c ?d": "x:a b/c ?d", "mailto:me@a.com?subject=b": "mailto:me@a.com?subject=b"} {
		for s, fragment := range map[string]string{"#": "", "#g": "g", "##": "#", "#?": "?", "#a?b#c": "a?b#c", "#/../": "/../", "# a\tb ": "%20ab", " #g ": "g", "\n#\ng": "g", "#ü": "%C3%BC", "#x:y": "x:y", "#%zz": "%zz"} {
			checkFrom(t, base, s, front+"#"+fragment)
		}
		for _, s := range []string{"", " ", "b", "?", "?q", "?#", "?q#f", "/", "/b", "//", "//h", "//h/p#f", "\\", ".", "..", "b#g", "/#g", ".#", "a#", ":", "1x:b", "%23", "＃"} {
			checkNoneFrom(t, base, s, api.ErrForm)
		}
		// What has a scheme is not relative, of the same scheme too.
		checkFrom(t, base, "x:#g", "x:#g")
		checkFrom(t, base, "x:b", "x:b")
		checkFrom(t, base, "mailto:#g", "mailto:#g")
		checkFrom(t, base, "X:/b", "x:/b")
		checkFrom(t, base, "http:b", "http://b/")
		checkNoneFrom(t, base, "http:#g", api.ErrHost)
	}
	checkNoneFrom(t, "x:a", "//a@b", api.ErrForm)
	checkNoneFrom(t, "x:a", "//a:x", api.ErrForm)
}

// Step 5

func TestSpecialAlone(t *testing.T) {
	for _, scheme := range specials {
		for _, base := range []string{"", "x:a", "x:/a/b", "x://a/b", "y://a:9"} {
			for n := range 8 {
				for _, sign := range []string{"/", "\\"} {
					strokes := strings.Repeat(sign, n)
					checkFrom(t, base, scheme+":"+strokes+"h", scheme+"://h/")
					checkFrom(t, base, scheme+":"+strokes+"h/a/../b?c#d", scheme+"://h/b?c#d")
					checkFrom(t, base, scheme+":"+strokes+"h:9//a", scheme+"://h:9//a")
					checkNoneFrom(t, base, scheme+":"+strokes, api.ErrHost)
					checkNoneFrom(t, base, scheme+":"+strokes+"?h", api.ErrHost)
					checkNoneFrom(t, base, scheme+":"+strokes+"#h", api.ErrHost)
				}
			}
		}
	}
}

func TestSpecialFromSpecial(t *testing.T) {
	for _, scheme := range specials {
		for _, other := range specials {
			base := other + "://a:9/b/c?q"
			for s, want := range map[string]string{"d": "a:9/b/d", "d?e": "a:9/b/d?e", "": "a:9/b/c?q", "?": "a:9/b/c?", "#e": "a:9/b/c?q#e", "?d#e": "a:9/b/c?d#e", "..": "a:9/", "./": "a:9/b/", "/": "a:9/", "/d/e": "a:9/d/e", "/?": "a:9/?", "d:e": "a:9/b/d:e", "d@e": "a:9/b/d@e", ":9": "a:9/b/:9", "/..": "a:9/", "/./": "a:9/", "/d//e": "a:9/d//e", "h:x": "a:9/b/h:x"} {
				if scheme == other {
					checkFrom(t, base, scheme+":"+s, scheme+"://"+want)
					checkFrom(t, base, strings.ToUpper(scheme)+":"+s, scheme+"://"+want)
					continue
				}
				checkAny(t, scheme+":"+s, from(t, base))
			}
			for n := 2; n < 8; n++ {
				strokes := strings.Repeat("/", n)
				checkFrom(t, base, scheme+":"+strokes+"h", scheme+"://h/")
				checkFrom(t, base, scheme+":"+strokes+"h:7/d/.", scheme+"://h:7/d/")
				checkNoneFrom(t, base, scheme+":"+strokes, api.ErrHost)
				checkNoneFrom(t, base, scheme+":"+strokes+"?e", api.ErrHost)
			}
			if scheme == other {
				continue
			}
			checkFrom(t, base, scheme+":d", scheme+"://d/")
			checkFrom(t, base, scheme+":/d", scheme+"://d/")
			checkFrom(t, base, scheme+":/d/e", scheme+"://d/e")
			checkNoneFrom(t, base, scheme+":..", api.ErrHost)
			checkNoneFrom(t, base, scheme+":", api.ErrHost)
			checkNoneFrom(t, base, scheme+":?d", api.ErrHost)
			checkNoneFrom(t, base, scheme+":#d", api.ErrHost)
		}
	}
}

// TestNotSpecial: of the same scheme as its base too, it is not relative.
func TestNotSpecial(t *testing.T) {
	for _, scheme := range others {
		for _, base := range []string{"", "http://a:9/b/c?q#f", scheme + "://a:9/b/c?q#f", scheme + ":/b/c?q#f", scheme + ":b?q#f"} {
			for s, want := range map[string]string{
				"": "", "a": "a", "a/b": "a/b", "a/../b": "a/../b", "..": "..", ".": ".", "?": "?", "#": "#", "?a#b": "?a#b", "a@b:c": "a@b:c", ":": ":", "a b": "a b", "%zz": "%zz", "a\x00b\x7F": "a%00b%7F", "ü\xff": "%C3%BC%FF", "\"#<>`": "\"#%3C%3E%60", "<>`{}^|[]\\'": "<>`{}^|[]\\'",
				"/": "/", "/a": "/a", "/a/b": "/a/b", "/a/../b": "/b", "/..": "/", "/.": "/", "/./a": "/a", "/a/": "/a/", "/a//b": "/a//b", "/./": "/", "/.//": "/.//", "/.//a": "/.//a", "/a/..//b": "/.//b", "/a/..//": "/.//", "/?": "/?", "/@:": "/@:", "/ü {": "/%C3%BC%20%7B",
				"//": "//", "///": "///", "////": "////", "///a": "///a", "////a": "////a", "//h": "//h", "//h/": "//h/", "//h//": "//h//", "//h/a/..": "//h/", "//H:80/a": "//H:80/a", "//h:/": "//h/", "//?": "//?", "//#": "//#", "///..": "///", "///../a": "///a", "//./a": "//./a", "//../..": "//../",
			} {
				checkFrom(t, base, scheme+":"+s, scheme+":"+want)
			}
		}
	}
}

// Step 6

func TestRelativeFromHost(t *testing.T) {
	for base, front := range map[string]string{"http://a:9/b/c/d?q#f": "http://a:9", "https://a/b/c/d?q": "https://a", "x://a/b/c/d?q#f": "x://a", "x://a:443/b/c/d?q": "x://a:443", "x:///b/c/d?q": "x://", "x:/b/c/d?q#": "x:", "y://[::1]:9/b/c/d?q": "y://[::1]:9", "ftp://[::1]/b/c/d?q": "ftp://[::1]"} {
		for s, want := range map[string]string{
			"": "/b/c/d?q", "#": "/b/c/d?q#", "#e": "/b/c/d?q#e", "?": "/b/c/d?", "?e": "/b/c/d?e", "?#": "/b/c/d?#", "?e#g": "/b/c/d?e#g",
			"e": "/b/c/e", "e/": "/b/c/e/", "e/g": "/b/c/e/g", "e?": "/b/c/e?", "e#": "/b/c/e#", "e?g#h": "/b/c/e?g#h", "./e": "/b/c/e", ".": "/b/c/", "./": "/b/c/", "..": "/b/", "../": "/b/", "../e": "/b/e", "../..": "/", "../../": "/", "../../e": "/e", "../../../e": "/e", "../../../..": "/", "%2e%2E/e": "/b/e", "%2e": "/b/c/", "..?e": "/b/?e", "e/..": "/b/c/", "...": "/b/c/...", ".e": "/b/c/.e", " e ": "/b/c/e", "e g": "/b/c/e%20g", "ü": "/b/c/%C3%BC", "e:g": "", ":e": "/b/c/:e", "1:e": "/b/c/1:e", "e//g": "/b/c/e//g", "@": "/b/c/@", "a@b": "/b/c/a@b",
			"/": "/", "/?": "/?", "/#": "/#", "/e": "/e", "/e/g?h#i": "/e/g?h#i", "/..": "/", "/../e": "/e", "/.": "/", "/e/": "/e/", "/e//g": "/e//g", "/:e": "/:e", "/e:9": "/e:9", "/@": "/@",
		} {
			if want != "" {
				checkFrom(t, base, s, front+want)
			}
		}
		checkFrom(t, base, "e:g", "e:g")
	}
}

// TestRelativeToAuthority: behind two strokes nothing of the base but the scheme stays.
func TestRelativeToAuthority(t *testing.T) {
	for _, base := range []string{"http://a:9/b/c?q#f", "http://a", "x://a:9/b/c?q#f", "x://a", "x:///b", "x:/b?q", "wss://[::1]:9/b"} {
		u := from(t, base)
		scheme := u.Scheme + ":"
		end := ""
		if Special(u.Scheme) {
			end = "/"
		}
		checkFrom(t, base, "//h", scheme+"//h"+end)
		checkFrom(t, base, "//h?e", scheme+"//h"+end+"?e")
		checkFrom(t, base, "//h#e", scheme+"//h"+end+"#e")
		checkFrom(t, base, "//h/", scheme+"//h/")
		checkFrom(t, base, "//h:7/d/../e", scheme+"//h:7/e")
		checkFrom(t, base, "//h:", scheme+"//h"+end)
		checkFrom(t, base, "//h//", scheme+"//h//")
		checkNoneFrom(t, base, "//a@b", api.ErrHost)
		checkNoneFrom(t, base, "//a:x", api.ErrPort)
		checkNoneFrom(t, base, "//a b", api.ErrHost)
		checkNoneFrom(t, base, "//:8", api.ErrHost)
		checkAny(t, "//", u)
		checkAny(t, "///", u)
		checkAny(t, "///h", u)
		checkAny(t, "//h:80", u)
		checkAny(t, "//h:443", u)
	}
	checkNoneFrom(t, "http://a/", "//", api.ErrHost)
	checkNoneFrom(t, "http://a/", "///", api.ErrHost)
	checkNoneFrom(t, "http://a/", "///h", api.ErrHost) // with no scheme of its own two strokes are left out, and no more
	checkNoneFrom(t, "http://a/", "//?h", api.ErrHost)
	checkFrom(t, "http://a/", "//h:80", "http://h/")
	checkFrom(t, "http://a/", "//h:443", "http://h:443/")
	checkFrom(t, "https://a/", "//h:443", "https://h/")
	checkFrom(t, "x://a/b", "//", "x://")
	checkFrom(t, "x://a/b", "///", "x:///")
	checkFrom(t, "x://a/b", "///h", "x:///h")
	checkFrom(t, "x:/b", "//h:80", "x://h:80")
}

// TestRelativeWithoutSegments: of a base with none, one, and one of no bytes.
func TestRelativeWithoutSegments(t *testing.T) {
	for s, wants := range map[string][4]string{ // from x://h, x://h/, x://h/a, x:/
		"":       {"x://h", "x://h/", "x://h/a", "x:/"},
		"?":      {"x://h?", "x://h/?", "x://h/a?", "x:/?"},
		"#":      {"x://h#", "x://h/#", "x://h/a#", "x:/#"},
		"?q#f":   {"x://h?q#f", "x://h/?q#f", "x://h/a?q#f", "x:/?q#f"},
		"b":      {"x://h/b", "x://h/b", "x://h/b", "x:/b"},
		"b/":     {"x://h/b/", "x://h/b/", "x://h/b/", "x:/b/"},
		".":      {"x://h/", "x://h/", "x://h/", "x:/"},
		"..":     {"x://h/", "x://h/", "x://h/", "x:/"},
		"../b":   {"x://h/b", "x://h/b", "x://h/b", "x:/b"},
		"/":      {"x://h/", "x://h/", "x://h/", "x:/"},
		"/b":     {"x://h/b", "x://h/b", "x://h/b", "x:/b"},
		"//g":    {"x://g", "x://g", "x://g", "x://g"},
		"//":     {"x://", "x://", "x://", "x://"},
		".//":    {"x://h//", "x://h//", "x://h//", "x:/.//"},
		".//b":   {"x://h//b", "x://h//b", "x://h//b", "x:/.//b"},
		"/.//b":  {"x://h//b", "x://h//b", "x://h//b", "x:/.//b"},
		"/..//b": {"x://h//b", "x://h//b", "x://h//b", "x:/.//b"},
	} {
		for i, base := range []string{"x://h", "x://h/", "x://h/a", "x:/"} {
			checkFrom(t, base, s, wants[i])
		}
	}
	checkFrom(t, "x:/.//a", "b", "x:/.//b")
	checkFrom(t, "x:/.//a", "", "x:/.//a")
	checkFrom(t, "x:/.//a", "..", "x:/")
	checkFrom(t, "x:/.//a", ".", "x:/.//")
	checkFrom(t, "x:/.//a/b", "..", "x:/.//")
	checkFrom(t, "x://h//", "b", "x://h//b")
	checkFrom(t, "x://h//a", "../b", "x://h/b")
	checkFrom(t, "http://h", "b", "http://h/b")
	checkFrom(t, "http://h//", "b", "http://h//b")
	checkFrom(t, "http://h/a//", "..", "http://h/a/")
}

// TestQueryOfBase: it is taken over with nothing of one's own but a fragment; the fragment never.
func TestQueryOfBase(t *testing.T) {
	for _, ahead := range []string{"http://a/b", "x://a/b", "x:/b", "x://a"} {
		for tail, query := range map[string]string{"": "", "?": "?", "?q": "?q", "#f": "", "?#f": "?", "?q#f": "?q", "?a?b'": "?a?b'", "#": "", "?#": "?"} {
			if strings.HasPrefix(ahead, "http") {
				query = strings.ReplaceAll(query, "'", "%27")
			}
			checkFrom(t, ahead+tail, "", ahead+query)
			checkFrom(t, ahead+tail, "#g", ahead+query+"#g")
			checkFrom(t, ahead+tail, "#", ahead+query+"#")
			checkFrom(t, ahead+tail, "?", ahead+"?")
			checkFrom(t, ahead+tail, "?r", ahead+"?r")
			checkFrom(t, ahead+tail, "?#g", ahead+"?#g")
			checkFrom(t, ahead+tail, "?r#g", ahead+"?r#g")
			front := strings.TrimSuffix(ahead, "/b")
			checkFrom(t, ahead+tail, "c", front+"/c")
			checkFrom(t, ahead+tail, ".", front+"/")
			checkFrom(t, ahead+tail, "/", front+"/")
			checkFrom(t, ahead+tail, "/c?", front+"/c?")
		}
	}
}

// Step 7

func TestAuthorityEnds(t *testing.T) {
	checkText(t, "http://a/b:9", "http://a/b:9")
	checkText(t, "http://a/@", "http://a/@")
	checkText(t, "http://a/b@c:d", "http://a/b@c:d")
	checkText(t, "http://a//b", "http://a//b")
	checkText(t, "http://a/[::1]", "http://a/[::1]")
	checkText(t, "x://a/b:9@[c]", "x://a/b:9@[c]")
	checkNone(t, "http://[::/1]", api.ErrHost)
	checkNone(t, "x://[::/1]", api.ErrHost)
	checkText(t, "http://a%2Eb/", "http://a.b/")
	checkNone(t, "http://a%2Fb/", api.ErrHost)
	checkText(t, "x://a%2Fb/", "x://a%2Fb/")
}

func TestUsers(t *testing.T) {
	for _, scheme := range []string{"http", "x"} {
		for _, s := range []string{"@", "@a", "a@", "a@b", "a:b@c", "a@b@c", "@@", "a@b:80", "a@b:x", "a@b c", "a@[::1]", "[a@b]", "a:@", ":@", "a:8@0", "@:x", "a b@c", "@:80", "a:99999@b"} {
			for _, behind := range []string{"", "/", "/b", "?c", "#d"} {
				checkNone(t, scheme+"://"+s+behind, api.ErrHost)
				checkNoneFrom(t, scheme+"://h", "//"+s+behind, api.ErrHost)
			}
		}
	}
	checkNone(t, "http:a@b", api.ErrHost)
	checkNone(t, "http://a%40b", api.ErrHost)
	checkText(t, "x://a%40b", "x://a%40b")
	checkText(t, "x:a@b", "x:a@b")
	checkText(t, "x:/a@b", "x:/a@b")
	checkText(t, "http://a/@b", "http://a/@b")
}

func TestPorts(t *testing.T) {
	for port, want := range map[string]int{
		"": -1, "0": 0, "1": 1, "9": 9, "00": 0, "80": 80, "080": 80, "00080": 80, "443": 443, "21": 21, "8080": 8080, "65534": 65534, "65535": 65535, "065535": 65535, "0000000065535": 65535, "99": 99, strings.Repeat("0", 380) + "7": 7, strings.Repeat("0", 380): 0, strings.Repeat("0", 300) + "443": 443,
	} {
		for _, scheme := range append(specials, "x") {
			u := api.URL{Scheme: scheme, Host: "a", Has: true, Port: want}
			if Special(scheme) {
				u.Path = []string{""}
			}
			if want == map[string]int{"http": 80, "https": 443, "ws": 80, "wss": 443, "ftp": 21, "x": -1}[scheme] {
				u.Port = -1
			}
			checkURL(t, scheme+"://a:"+port, nil, u)
			checkURL(t, "//a:"+port, from(t, scheme+"://b:77"), u)
			u.Path = []string{"b"}
			checkURL(t, scheme+"://a:"+port+"/b", nil, u)
			u.Host = "[::1]"
			checkURL(t, scheme+"://[::1]:"+port+"/b", nil, u)
			u.Path, u.Query, u.Asks = nil, "c", true
			if Special(scheme) {
				u.Path = []string{""}
			}
			checkURL(t, scheme+"://[::1]:"+port+"?c", nil, u)
		}
	}
	for n := range 70000 {
		if u, e := Parse("x://a:"+strconv.Itoa(n), nil); n <= 65535 && (e != api.OK || u.Port != n) || n > 65535 && e != api.ErrPort {
			t.Errorf("port %d: %d, %d", n, u.Port, e)
		}
	}
}

func TestNoPorts(t *testing.T) {
	ports := []string{"65536", "65537", "065536", "70000", "99999", "100000", "655350", "65535000", "4294967296", "4294967376", "18446744073709551616", "18446744073709551696", "99999999999999999999", "340282366920938463463374607431768211456", strings.Repeat("9", 350), "1" + strings.Repeat("0", 300), strings.Repeat("0", 300) + "65536",
		"-1", "-0", "+1", "+80", "-", "+", "x", "8x", "x8", "8 0", "0x50", "0x", "0b1", "0o17", "1_0", "8_0", "1e3", "8.0", "80.", ".80", "８０", "٣", "8ü", "\xff", "8\x000", "8\x1F0", "8,0", "80;", "8%30", "%38", "%", "NaN", "Inf", "1'000", "[8", "8]", "]", "a]", "8]0", "²", "8\x7F"}
	for _, port := range ports {
		for _, scheme := range append(specials, "x") {
			for _, behind := range []string{"", "/", "/b:80", "?80", "#80"} {
				checkNone(t, scheme+"://a:"+port+behind, api.ErrPort)
				checkNone(t, scheme+"://[::1]:"+port+behind, api.ErrPort)
				checkNoneFrom(t, scheme+"://h", "//a:"+port+behind, api.ErrPort)
			}
			checkNone(t, scheme+"://:"+port, api.ErrPort)
			checkNone(t, scheme+"://a b:"+port, api.ErrPort)
			checkNone(t, scheme+"://a:80:"+port, api.ErrPort)
		}
	}
	for x := range 256 {
		b := string([]byte{byte(x)})
		if strings.Contains("\t\n\r/?#@:0123456789", b) {
			continue
		}
		for _, s := range []string{"x://a:" + b + "0/", "x://a:0" + b + "/", "x://a:0" + b + "0/", "x://a:" + b + "/"} {
			checkNone(t, s, api.ErrPort)
		}
	}
}

// TestColons: the last one parts a port off, if it does not stand between brackets.
func TestColons(t *testing.T) {
	for s, want := range map[string]string{
		"[::1]": "[::1]", "[::1]:": "[::1]", "[::1]:9": "[::1]:9", "[1:2:3:4:5:6:7:8]:9": "[1:2:3:4:5:6:7:8]:9", "[::]:9": "[::]:9", "[::ffff:1.2.3.4]:9": "[::ffff:102:304]:9",
	} {
		checkText(t, "http://"+s+"/", "http://"+want+"/")
		checkText(t, "x://"+s, "x://"+want)
		checkText(t, "x://"+s+"/a:b", "x://"+want+"/a:b")
	}
	for _, s := range []string{
		"a:80:90", "a:80:", "a::80", "a::", "a:b:80", "::", "::1", "::80", ":::", "1:2:3:4:5:6:7:8", "[::1]:80:90", "[::1]::90", "[::1]::", "[::1]:80:", "[::1]a:80", "a[::1]:80", "[::1", "[::1:80", "[::", "[:80", "[:", "[::1]x", "[a]:80", "[]:80", "[]", "[:]", "[:]:", "[::1][::1]", "[::1]:[::1]:80", "[[::1]]", "[[::1]]:80", "[::1]]:80", "[[::1]:80", "[:x]", "[:x]:80", "[::x]", "a[:x]", "a[:x]b", "[a:b][c:d]", "[a:b][c:d]:80", "a]:80", "]:80", "[:]:[:]:80", "[[:]:80", "x[y:z]:80", "[::1]:80[]:90", "%5B::1]:80", "[%3A%3A1]", "[%3A%3A1]:80", "[::1%5D:80",
	} {
		checkNone(t, "http://"+s+"/", api.ErrHost)
		checkNone(t, "x://"+s, api.ErrHost)
		checkNone(t, "x://"+s+"?a", api.ErrHost)
	}
	for _, s := range []string{
		"[::1]:x", "[::1]:80]", "[a:b]:x", "[a]:b]", "[]:]", "]:x", "a]:x", "a:x]", "a:]", "a:[", "a:80[]", "a:[]", "a:[x]", "[::1]:80:x", "[:]:x", "[[:]:x", "[a:b]c:x", "[::1]:80[]", "[::1]:80[:x]", "[a]:b[c:d]", "]a:b[", "]:[", "[a:b][c:d]:e",
		"[:x", "[::x", "[a:b", "[::1]:[x", "[::1]:[:y", "[::99999", "[::1%5D", // a bracket that is not closed: nothing stands between two
	} {
		checkNone(t, "http://"+s+"/", api.ErrPort)
		checkNone(t, "x://"+s, api.ErrPort)
		checkNone(t, "x://"+s+"#a", api.ErrPort)
	}
}

func TestHosts(t *testing.T) {
	for _, s := range []string{"a", "A.b", "xn--bcher-kva", "bücher.DE", "%41", "1.2.3.4", "0x7f.1", "1", "256", "a.", "[::1]", "[::0:1]", "a_b", "%C3%BC", "a%", "%zz", "a b", "a^b", "a|b", "a<b", "1.2.3.4.5", "4294967296", "xn--", "..", "a..b", ".", "\u00AD", "\xff", "a\x7Fb", "a\x01b", strings.Repeat("a", 63), strings.Repeat("a", 64), "[", "]", "[]", "[x]"} {
		for _, scheme := range append(specials, "x", "file") {
			want, e := host.Parse(s, Special(scheme))
			if e != api.OK {
				checkNone(t, scheme+"://"+s, api.ErrHost)
				checkNone(t, scheme+"://"+s+":9/", api.ErrHost)
				checkNoneFrom(t, scheme+"://h", "//"+s+":9/", api.ErrHost)
				continue
			}
			u := api.URL{Scheme: scheme, Host: want, Has: true, Port: 9, Path: []string{"a"}}
			checkURL(t, scheme+"://"+s+":9/a", nil, u)
			checkURL(t, "//"+s+":9/a", from(t, scheme+"://h"), u)
			u.Port = -1
			checkURL(t, scheme+"://"+s+"/a", nil, u)
		}
	}
}

func TestEmptyHosts(t *testing.T) {
	for _, scheme := range specials {
		for _, s := range []string{":", ":80", ":9", ":/a", ":9/a", ":?a", ":9#a", "/", "//", "?a", "#a", "///?a", "/#a", "/:9", "//:9/a", "\\", "\\:"} {
			checkNone(t, scheme+"://"+s, api.ErrHost)
		}
		checkNone(t, scheme+"://", api.ErrHost)
		checkNone(t, scheme+":", api.ErrHost)
		checkNone(t, scheme+"://:x", api.ErrPort)
		checkNone(t, scheme+"://:65536", api.ErrPort)
		checkNone(t, scheme+"://%C2%AD/", api.ErrHost)
		checkNone(t, scheme+"://\u00AD/", api.ErrHost)
		checkNoneFrom(t, scheme+"://h", "//", api.ErrHost)
		checkNoneFrom(t, scheme+"://h", "//:9", api.ErrHost)
		checkNoneFrom(t, scheme+"://h", "//?", api.ErrHost)
	}
	for _, scheme := range others {
		for s, path := range map[string][]string{"": nil, "/": {""}, "//": {"", ""}, "/a": {"a"}, "/a/b": {"a", "b"}, "/:9": {":9"}, "/..": {""}, "//a": {"", "a"}} {
			checkURL(t, scheme+"://"+s, nil, api.URL{Scheme: scheme, Has: true, Port: -1, Path: path})
			checkURL(t, "//"+s, from(t, scheme+"://h:9/a"), api.URL{Scheme: scheme, Has: true, Port: -1, Path: path})
		}
		for _, s := range []string{":", ":/", ":0", ":80", ":9/a", ":?a", ":#a", ":443//"} {
			checkNone(t, scheme+"://"+s, api.ErrHost)
			checkNoneFrom(t, scheme+"://h", "//"+s, api.ErrHost)
		}
		checkNone(t, scheme+"://:x", api.ErrPort)
		checkNone(t, scheme+"://::", api.ErrHost)
	}
}

func TestBehindAuthority(t *testing.T) {
	for s, path := range map[string][]string{"": nil, "/": {""}, "//": {"", ""}, "/.": {""}, "/..": {""}, "/a": {"a"}, "/a/": {"a", ""}, "//a": {"", "a"}, "/a/..": {""}, "/a//..": {"a", ""}, "/%2e": {""}, "/ ": {"%20"}, "/ü": {"%C3%BC"}, "/a b/c": {"a%20b", "c"}} {
		for _, tail := range []string{"#f", "?#f"} { // with a tail, so that no blank stands at the end
			u := api.URL{Scheme: "x", Host: "h", Has: true, Port: -1, Path: path, Asks: tail[0] == '?', Fragment: "f", Marks: true}
			checkURL(t, "x://h"+s+tail, nil, u)
			checkURL(t, "x://h:"+s+tail, nil, u)
			u.Port = 9
			checkURL(t, "x://h:9"+s+tail, nil, u)
			u.Scheme = "https"
			if path == nil {
				u.Path = []string{""}
			}
			checkURL(t, "https://h:9"+s+tail, nil, u)
			u.Port = -1
			checkURL(t, "https://h"+s+tail, nil, u)
			checkURL(t, "https:h:443"+s+tail, nil, u)
			checkURL(t, "https:h:443"+strings.ReplaceAll(s, "/", "\\")+tail, nil, u)
		}
	}
}

// Step 8

func TestPaths(t *testing.T) {
	checkText(t, "http://a/b\\..\\c", "http://a/c")
	checkText(t, "x://a/b\\..\\c", "x://a/b\\..\\c")
	checkText(t, "http://a/ \"<>^`{}'|[]:;=@", "http://a/%20%22%3C%3E%5E%60%7B%7D'|[]:;=@")
	checkText(t, "x:/ \"<>^`{}'|[]:;=@", "x:/%20%22%3C%3E%5E%60%7B%7D'|[]:;=@")
	checkText(t, "http://a/../../b/./c/..", "http://a/b/")
	checkText(t, "http://a/%2E%2e/%2e/b", "http://a/b")
	checkText(t, "http://a/b%2fc%5Cd%3f%23", "http://a/b%2fc%5Cd%3f%23")
	checkText(t, "http://a/%c3%bc%C3%BC%ff%zz%", "http://a/%c3%bc%C3%BC%ff%zz%")
	checkFrom(t, "x:/a/b", "c\\d/../e", "x:/a/e")
	checkFrom(t, "http://a/b/%2e%2e%2f/c", "d", "http://a/b/%2e%2e%2f/d")
	for x := range 256 {
		b := string([]byte{byte(x)})
		if strings.Contains("\t\n\r/\\?#", b) {
			continue
		}
		want := refEncode(b, " \"#<>?^`{}")
		checkText(t, "http://h/a"+b+"c", "http://h/a"+want+"c")
		checkText(t, "x://h/a"+b+"c", "x://h/a"+want+"c")
		checkText(t, "x:/a"+b+"c", "x:/a"+want+"c")
		checkFrom(t, "x:/a", "/a"+b+"c", "x:/a"+want+"c")
		checkFrom(t, "http://h/a", "c/a"+b+"c", "http://h/c/a"+want+"c")
		// Of one that is Opaque, Control is written so, and no more.
		checkText(t, "x:a"+b+"c", "x:a"+refEncode(b, refControl)+"c")
	}
}

// TestOpaqueEnds: spaces at the ends of an Opaque path that do not stand at an end of the text stay.
func TestOpaqueEnds(t *testing.T) {
	checkText(t, "x: a", "x: a")
	checkText(t, "x: a ", "x: a")
	checkText(t, "x: a ?", "x: a ?")
	checkText(t, "x: a #", "x: a #")
	checkText(t, "x:  ?b", "x:  ?b")
	checkText(t, "x: ", "x:")
	checkFrom(t, "x:a ?", "#", "x:a ?#")
	checkFrom(t, "x:a #", "#b", "x:a #b")
	checkText(t, "x: \t/a", "x: /a")
	checkText(t, "x:\t/a", "x:/a")
	checkText(t, "x: //a", "x: //a")
	checkText(t, "x:\x01/a\x1F?", "x:%01/a%1F?")
}

// Step 9

func TestQueryBytes(t *testing.T) {
	for x := range 256 {
		b := string([]byte{byte(x)})
		if strings.Contains("\t\n\r#", b) {
			continue
		}
		query, special := refEncode(b, refQuery), refEncode(b, refSpecial)
		for _, scheme := range specials {
			checkText(t, scheme+"://h?a"+b+"c", scheme+"://h/?a"+special+"c")
			checkText(t, scheme+"://h/?"+b+b+"c#d", scheme+"://h/?"+special+special+"c#d")
			checkFrom(t, scheme+"://h/", "?a"+b+"c", scheme+"://h/?a"+special+"c")
			checkFrom(t, scheme+"://h/?a"+b+"c", "#", scheme+"://h/?a"+special+"c#")
		}
		for _, ahead := range []string{"x:", "x:y", "x:/", "x://", "x://h", "file:///a", "httpx://h/"} {
			checkText(t, ahead+"?a"+b+"c", ahead+"?a"+query+"c")
			checkText(t, ahead+"?"+b+b+"c#d", ahead+"?"+query+query+"c#d")
			checkFrom(t, ahead+"?a"+b+"c", "#", ahead+"?a"+query+"c#")
		}
		checkFrom(t, "x://h", "?a"+b+"c", "x://h?a"+query+"c")
		fragment := refEncode(b, refFragment)
		for _, ahead := range []string{"http://h/", "ftp://h/?q", "x:", "x:y?", "x:/a", "x://h"} {
			checkText(t, ahead+"#a"+b+"c", ahead+"#a"+fragment+"c")
			checkFrom(t, ahead, "#a"+b+"c", ahead+"#a"+fragment+"c")
		}
	}
	// Written out: the sets, and their neighbours.
	checkText(t, "http://h/?!\"#$", "http://h/?!%22#$")
	checkText(t, "http://h/? !\"$%&'()*+,-./:;<=>?@[\\]^_`{|}~\x7F\x80", "http://h/?%20!%22$%&%27()*+,-./:;%3C=%3E?@[\\]^_`{|}~%7F%80")
	checkText(t, "x:/? !\"$%&'()*+,-./:;<=>?@[\\]^_`{|}~\x7F\x80", "x:/?%20!%22$%&'()*+,-./:;%3C=%3E?@[\\]^_`{|}~%7F%80")
	checkText(t, "x:/# !\"#$%&'()*+,-./:;<=>?@[\\]^_`{|}~\x7F\x80", "x:/#%20!%22#$%&'()*+,-./:;%3C=%3E?@[\\]^_%60{|}~%7F%80")
	checkText(t, "http://h/# !\"#$%&'()*+,-./:;<=>?@[\\]^_`{|}~\x7F\x80", "http://h/#%20!%22#$%&'()*+,-./:;%3C=%3E?@[\\]^_%60{|}~%7F%80")
}

// TestPerCentStays: signs that are right and such that are wrong, in the query, the fragment, the path.
func TestPerCentStays(t *testing.T) {
	for _, s := range []string{"%", "%%", "%4", "%41", "%zz", "%20", "%2520", "%27", "%c3%bc", "%C3%BC", "%00", "%23", "%3f", "%3F", "%0a", "%ff", "100%", "%u0041", "%g1", "a%"} {
		for _, ahead := range []string{"http://h/", "x:/", "x://h/", "x:"} {
			text := ahead + s + "?" + s + "#" + s
			checkText(t, text, text)
		}
	}
}

// Which of two errors is told

func TestErrors(t *testing.T) {
	rest := strings.Repeat("b", 401)
	for _, s := range []string{"", "//a@b:x/", "http://a@b:x/", "http://a:x/", "http://a b/", "http://", "1x:", "x://:x"} {
		checkNone(t, s+rest, api.ErrLong)
		checkNoneFrom(t, "x:a", s+rest, api.ErrLong)
		checkNoneFrom(t, "http://h", s+rest, api.ErrLong)
	}
	for _, s := range []string{"//a@b:x/", "//a:x", "//a b", "//", "/a", "?a", "1x://a@b"} {
		checkNone(t, s, api.ErrForm)
		checkNoneFrom(t, "x:a", s, api.ErrForm)
	}
	for _, scheme := range append(specials, "x") {
		for s, want := range map[string]api.Errno{
			"a@b:x": api.ErrHost, "@:x": api.ErrHost, "a b@:99999": api.ErrHost, "a:x@b": api.ErrHost, "a:b@c:x": api.ErrHost, "[::1@:x": api.ErrHost,
			"a b:x": api.ErrPort, "a b:65536": api.ErrPort, ":x": api.ErrPort, "[::1:x": api.ErrPort, "[x]:y": api.ErrPort, "a:b:c": api.ErrPort, "a^b:-1": api.ErrPort, "a:99999:99999": api.ErrPort,
			"a b:1": api.ErrHost, "a b:": api.ErrHost, "a b": api.ErrHost, ":1": api.ErrHost, "a:b:1": api.ErrHost, "[x]:1": api.ErrHost, "[x]": api.ErrHost, "a:99999:1": api.ErrHost,
		} {
			for _, behind := range []string{"", "/", "/\xff", "?@", "#:x"} {
				checkNone(t, scheme+"://"+s+behind, want)
				checkNoneFrom(t, scheme+"://h/", "//"+s+behind, want)
				checkNoneFrom(t, "y:z", scheme+"://"+s+behind, want)
			}
		}
	}
}

// P12.2: Show, Same; Special and Default

func checkShow(t *testing.T, u api.URL, want string) {
	t.Helper()
	if got := Show(u); got != want {
		t.Errorf("Show(%+v): %q, not %q", u, got, want)
	}
}

func TestShow(t *testing.T) {
	one := []string{"p"}
	for _, scheme := range []string{"http", "x"} {
		for port, text := range map[int]string{-1: "", 0: ":0", 1: ":1", 21: ":21", 80: ":80", 443: ":443", 8080: ":8080", 65535: ":65535"} {
			for _, h := range []string{"a", "", "[::1]", "1.2.3.4", "a%C3"} {
				checkShow(t, api.URL{Scheme: scheme, Host: h, Has: true, Port: port, Path: one}, scheme+"://"+h+text+"/p")
				checkShow(t, api.URL{Scheme: scheme, Host: h, Has: true, Port: port}, scheme+"://"+h+text)
				// With no host there is no port to be shown, nor the host's text.
				checkShow(t, api.URL{Scheme: scheme, Host: h, Port: port, Path: one}, scheme+":/p")
				checkShow(t, api.URL{Scheme: scheme, Host: h, Port: port, Path: one, Opaque: true}, scheme+":p")
			}
		}
		for text, path := range map[string][]string{"": nil, "/": {""}, "/p": {"p"}, "/p/": {"p", ""}, "/p/q": {"p", "q"}, "/p//q": {"p", "", "q"}, "/p//": {"p", "", ""}, "//": {"", ""}, "//p": {"", "p"}, "///": {"", "", ""}, "//p/q": {"", "p", "q"}, "/.": {"."}, "/../p": {"..", "p"}} {
			for _, tail := range []api.URL{{}, {Asks: true}, {Marks: true}, {Asks: true, Marks: true}, {Asks: true, Query: "q"}, {Marks: true, Fragment: "f"}, {Asks: true, Query: "q", Marks: true, Fragment: "f"}, {Query: "q", Fragment: "f"}, {Asks: true, Query: "?q=#", Marks: true, Fragment: "#?"}} {
				end := ""
				if tail.Asks {
					end = "?" + tail.Query
				}
				if tail.Marks {
					end += "#" + tail.Fragment
				}
				u := tail
				u.Scheme, u.Port, u.Path = scheme, -1, path
				front := ""
				if strings.HasPrefix(text, "//") {
					front = "/."
				}
				checkShow(t, u, scheme+":"+front+text+end)
				u.Opaque = true
				checkShow(t, u, scheme+":"+strings.Join(path, "")+end)
				u.Host, u.Has, u.Opaque = "h", true, false
				checkShow(t, u, scheme+"://h"+text+end)
				u.Host = ""
				checkShow(t, u, scheme+"://"+text+end)
			}
		}
	}
	checkShow(t, api.URL{Scheme: "x", Opaque: true, Path: []string{"a b/../c"}}, "x:a b/../c")
	checkShow(t, api.URL{Scheme: "x", Opaque: true, Path: []string{""}}, "x:")
	checkShow(t, api.URL{Scheme: "x", Opaque: true}, "x:")
	checkShow(t, api.URL{}, ":")
	// As it is: nothing is turned, left out or written with per cent signs.
	checkShow(t, api.URL{Scheme: "HTTP", Host: "A b", Has: true, Port: 80, Path: []string{"a b", "ü", "\xff"}, Asks: true, Query: " ", Marks: true, Fragment: "\t"}, "HTTP://A b:80/a b/ü/\xff? #\t")
}

func TestSame(t *testing.T) {
	whole := api.URL{Scheme: "http", Host: "a", Has: true, Port: 80, Path: []string{"b", "c"}, Opaque: true, Query: "q", Asks: true, Fragment: "f", Marks: true}
	for _, u := range []api.URL{whole, {}, {Port: -1}, {Scheme: "x", Opaque: true, Path: []string{""}}, *from(t, "http://a/b?q#f"), *from(t, "x://h")} {
		v := u
		v.Path = slices.Clone(u.Path)
		if !Same(u, u) || !Same(u, v) || !Same(v, u) {
			t.Errorf("%+v isn't the same as itself", u)
		}
		for i, turn := range []func(v *api.URL){
			func(v *api.URL) { v.Scheme += "s" },
			func(v *api.URL) { v.Scheme = "H" + v.Scheme },
			func(v *api.URL) { v.Host += "." },
			func(v *api.URL) { v.Host = "A" },
			func(v *api.URL) { v.Has = !v.Has },
			func(v *api.URL) { v.Port++ },
			func(v *api.URL) { v.Port = 65535 },
			func(v *api.URL) { v.Path = append(slices.Clone(v.Path), "") },
			func(v *api.URL) { v.Path = append([]string{""}, v.Path...) },
			func(v *api.URL) { v.Path = append(slices.Clone(v.Path), "d") },
			func(v *api.URL) { v.Opaque = !v.Opaque },
			func(v *api.URL) { v.Query += "%" },
			func(v *api.URL) { v.Query = "Q" },
			func(v *api.URL) { v.Asks = !v.Asks },
			func(v *api.URL) { v.Fragment += "g" },
			func(v *api.URL) { v.Fragment = "F" },
			func(v *api.URL) { v.Marks = !v.Marks },
		} {
			v := u
			if turn(&v); Same(u, v) || Same(v, u) {
				t.Errorf("turn %d: %+v is the same as %+v", i, u, v)
			}
		}
	}
	for _, path := range [][]string{nil, {"b"}, {"c", "b"}, {"b", "c", ""}, {"bc"}, {"b/c"}, {"", "b", "c"}, {"b", "C"}, {"", ""}} {
		v := whole
		if v.Path = path; Same(whole, v) || Same(v, whole) {
			t.Errorf("the path %q is the same as %q", path, whole.Path)
		}
	}
	// nil and an empty list are one; room behind a list is not asked.
	none, empty := api.URL{Scheme: "x"}, api.URL{Scheme: "x", Path: []string{}}
	if !Same(none, empty) || !Same(empty, none) {
		t.Error("an empty path isn't the same as none")
	}
	room := whole
	if room.Path = []string{"b", "c", "d"}[:2]; !Same(whole, room) {
		t.Error("room behind a path is asked")
	}
	// It is the parts that are asked, and not the text.
	if Same(*from(t, "http://a/"), *from(t, "http://a/?")) || Same(*from(t, "http://a/"), *from(t, "http://a/#")) || Same(*from(t, "x://a"), *from(t, "x://a/")) || !Same(*from(t, "HTTP://A:80"), *from(t, "http://a/")) {
		t.Error("Same of parsed addresses")
	}
	a, b := api.URL{Scheme: "x", Path: []string{"a/b"}}, api.URL{Scheme: "x", Path: []string{"a", "b"}}
	if Show(a) != Show(b) || Same(a, b) {
		t.Error("Same asks the text")
	}
}

func TestSpecialAndDefault(t *testing.T) {
	for scheme, want := range map[string]int{"http": 80, "https": 443, "ws": 80, "wss": 443, "ftp": 21} {
		if !Special(scheme) || Default(scheme) != want {
			t.Errorf("%q: %t, %d", scheme, Special(scheme), Default(scheme))
		}
		for _, no := range []string{strings.ToUpper(scheme), strings.ToUpper(scheme[:1]) + scheme[1:], scheme + "x", "x" + scheme, scheme[1:], scheme + ":", " " + scheme, scheme + " ", scheme + "\x00", scheme + scheme} {
			if Special(no) || Default(no) != -1 {
				t.Errorf("%q: %t, %d", no, Special(no), Default(no))
			}
		}
	}
	for _, no := range append(others, "", "80", "htt", "httpss", "w", "f", "ft", "gopher", "ssh", "HTTPS", "\xff", strings.Repeat("http", 1000)) {
		if Special(no) || Default(no) != -1 {
			t.Errorf("%q: %t, %d", no, Special(no), Default(no))
		}
	}
}

// What follows, and R1 to R4

// bases: addresses from which texts are parsed, and none.
func bases(t *testing.T) []*api.URL {
	t.Helper()
	all := []*api.URL{nil}
	for _, s := range around {
		all = append(all, from(t, s))
	}
	return all
}

// odd: bases that Parse never tells.
var odd = []api.URL{
	{}, {Port: -1}, {Opaque: true}, {Scheme: "http"}, {Scheme: "http", Opaque: true, Path: []string{"a"}, Asks: true}, {Scheme: "HTTP", Host: "A", Has: true}, {Scheme: "x", Opaque: true, Path: []string{"a", "b"}}, {Scheme: "x", Path: []string{"..", "a/b", "\xff", ""}}, {Scheme: ":/?#", Host: "@:", Port: -9, Path: []string{"#"}, Query: "#", Fragment: "\n"}, {Scheme: "http", Has: true, Port: 80, Path: []string{}}, {Scheme: "http", Host: "a", Port: 99, Path: []string{"b"}}, {Scheme: "x", Path: make([]string, 2000)},
}

// TestOddBases: whatever the base is, the steps are gone in their order.
func TestOddBases(t *testing.T) {
	for _, base := range odd {
		for _, s := range append(seeds, "", "#", "?", "/", "//", "a", "..", "http:", "http:a", "http:/a", "http:#", "http://a", "x:a", "\\", "//a:80", ":/?#:a") {
			want, wantErr := refParse(s, &base)
			if u, e := Parse(s, &base); e != wantErr || !alike(u, want) || Show(u) != refShow(u) {
				t.Errorf("Parse(%q, %+v): %+v, %d, not %+v, %d", s, base, u, e, want, wantErr)
			}
		}
	}
}

// TestShortTexts: all texts of few signs, from each base.
func TestShortTexts(t *testing.T) {
	all := bases(t)
	var walk func(s string, signs []string, left int)
	walk = func(s string, signs []string, left int) {
		for _, base := range all {
			checkAny(t, s, base)
		}
		if left > 0 {
			for _, sign := range signs {
				walk(s+sign, signs, left-1)
			}
		}
	}
	walk("", []string{"http:", "x:", "/", "\\", "a", "?", "#"}, 4)
	walk("", []string{"a", ":", "/", ".", "\n", " "}, 5)
	for _, front := range []string{"http://", "x://", "//", "ftp:"} {
		walk(front, []string{"[", "]", ":", "@", "8", "a", "/"}, 4)
		walk(front, []string{":", "0", "6", "80", "65535", "-", "a"}, 3)
	}
	for _, front := range []string{"http://a/", "x:/", "x://", ""} {
		walk(front, []string{"/", ".", "..", "%2e", "a", "\\"}, 4)
	}
	for x := range 256 {
		for y := range 256 {
			checkAny(t, string([]byte{byte(x), byte(y)}), all[1])
			checkAny(t, "x:"+string([]byte{byte(x), byte(y)}), nil)
		}
	}
}

var seeds = []string{
	"HTTP://a:80/b/../c", "http://a", "https://A:443?x#y", "http:\\\\a\\b", "http:////a/b", "ws://a:80", "mailto:a b?c d#e f", "x:", "x:/", "x:/.//p", "x://h", "x:///p", "X+1-.y:a", " \t http://a/\nb\r \x00", "http://[::0001]:81/", "http://0x7f.1/", "http://a:/", "http://a:00080/", "http://a/?q='#'", "x:a\\b/c", "http://a/b?c?d#e#f", "x:/a/../..", "http://a@b", "http://a b:x", "http://[::1", "http://[:x", "x://:80", "http://bücher.de/ä", "http://%41.com", "\xff://\xff", "http://a/\xff?\xff#\xff", "d/../e", "//d/e", "\\/d", "#g", "?", "../..", "1x:a", ":", "x: a ?b",
}

func randomText(r *rand.Rand) string {
	fronts := []string{"http://", "http://a", "https:", "HTTP:\\", "x:", "x:/", "x://", "x://h", "ftp:/", "//", "/", "", "", "wss://[::1]", "file:///", "1x:", " ", "y"}
	parts := []string{"a", "b.c", ":", ":80", ":443", ":99", ":65536", "/", "/", "//", "\\", ".", "..", "/../", "/./", "%2e", "%2E%2e", "%", "%41", "%C3%BC", "?", "?", "#", "#", "@", "[", "]", "[::1]", " ", "\t", "\n", "\x00", "ü", "中", "\xff", "'", "\"", "<", "`", "{", "^", "|", "1.2.3.4", "0x7f.1", "xn--bcher-kva", "http:", "x:", "=", "&", "-", "+"}
	var b strings.Builder
	b.WriteString(fronts[r.Intn(len(fronts))])
	for range r.Intn(8) {
		b.WriteString(parts[r.Intn(len(parts))])
	}
	return b.String()
}

// TestRandomTexts: texts of parts that mean something, each from one that was found ahead of it.
func TestRandomTexts(t *testing.T) {
	r := rand.New(rand.NewSource(12))
	var base *api.URL
	told := map[api.Errno]int{}
	for range 100000 {
		s := randomText(r)
		checkAny(t, s, base)
		u, e := Parse(s, base)
		told[e]++
		if e == api.OK && r.Intn(4) == 0 {
			base = &u
		}
		if r.Intn(20) == 0 {
			base = nil
		}
	}
	if told[api.OK] < 20000 || told[api.ErrForm] < 5000 || told[api.ErrHost] < 5000 || told[api.ErrPort] < 1000 {
		t.Errorf("of the texts, by error: %v", told)
	}
}

// TestRandomBytes: texts of any bytes, of most lengths.
func TestRandomBytes(t *testing.T) {
	r := rand.New(rand.NewSource(1212))
	all := bases(t)
	for range 30000 {
		b := make([]byte, r.Intn(1<<r.Intn(10)))
		for i := range b {
			b[i] = byte(r.Intn(1 << (1 + r.Intn(8))))
		}
		front := []string{"", "x:", "http://a/", "http:", "//"}[r.Intn(5)]
		checkAny(t, front+string(b), all[r.Intn(len(all))])
	}
}

// roomy tells text as one that shares its bytes with a buffer.
func roomy(text string) (handed string, room []byte) {
	room = []byte("##" + text + "##")
	return unsafe.String(&room[2], len(text)), room
}

// TestTextStays: a text that shares its bytes with a buffer is not changed and not kept.
func TestTextStays(t *testing.T) {
	for _, s := range append(seeds, "x", "http", "plain", "x:plain", "x://host", "scheme:a", "http://host") {
		for _, base := range bases(t) {
			handed, room := roomy(s)
			u, e := Parse(handed, base)
			if string(room) != "##"+s+"##" {
				t.Errorf("Parse(%q) changed it: %q", s, room)
			}
			for i := range room {
				room[i] = 'q'
			}
			want, wantErr := refParse(s, base)
			if e != wantErr || !alike(u, want) {
				t.Errorf("Parse(%q, %s) kept what was handed in: %+v, %d, not %+v, %d", s, shown(base), u, e, want, wantErr)
			}
		}
	}
}

// roomyURL tells u with texts and a path that share their memory with buffers, and what turns all of these.
func roomyURL(u api.URL) (handed api.URL, whole []string, turn func()) {
	var rooms [][]byte
	take := func(s string) string {
		text, room := roomy(s)
		rooms = append(rooms, room)
		return text
	}
	handed = u
	handed.Scheme, handed.Host, handed.Query, handed.Fragment = take(u.Scheme), take(u.Host), take(u.Query), take(u.Fragment)
	for _, segment := range u.Path {
		whole = append(whole, take(segment))
	}
	whole = append(whole, "spare", "spare", "spare")
	handed.Path = whole[:len(u.Path)]
	return handed, whole, func() {
		for _, room := range rooms {
			for i := range room {
				room[i] = 'q'
			}
		}
		for i := range whole {
			whole[i] = "changed"
		}
	}
}

// TestBaseStays: the base is not turned, spare room neither, and shares nothing with the answer.
func TestBaseStays(t *testing.T) {
	texts := append(seeds, "", "#", "#g", "?q", "d", "..", "../..", ".", "/", "/d", "//d", "http:", "http:d", "http:/d", "http:#g", "https:", "ftp:")
	for _, was := range append(slices.Clone(around), "http://long.host.name:8080/segment/of/way?question=asked#fragment", "x:opaque/way?question#fragment") {
		for _, s := range texts {
			plain := from(t, was)
			want, wantErr := refParse(s, plain)
			base, whole, turn := roomyURL(*plain)
			before := append(slices.Clone(plain.Path), "spare", "spare", "spare")
			u, e := Parse(s, &base)
			if !alike(base, *plain) || !slices.Equal(whole, before) || e != wantErr || !alike(u, want) {
				t.Errorf("Parse(%q, %s): %+v, %d, of the base %+v is left", s, was, u, e, base)
			}
			turn()
			base.Port, base.Has, base.Opaque = 7, !base.Has, !base.Opaque
			if !alike(u, want) {
				t.Errorf("Parse(%q, %s): %+v turned with its base into %+v", s, was, want, u)
			}
			base, whole, _ = roomyURL(*plain)
			u, _ = Parse(s, &base)
			v, _ := Parse(s, &base)
			for i := range u.Path[:cap(u.Path)] {
				u.Path[:cap(u.Path)][i] = "changed"
			}
			if !alike(base, *plain) || !slices.Equal(whole, before) {
				t.Errorf("Parse(%q, %s): the base turned with the answer: %+v", s, was, base)
			}
			if !alike(v, want) {
				t.Errorf("Parse(%q, %s): two answers share their memory: %+v", s, was, v)
			}
		}
	}
}

// TestShowStays: what is shown or held against another is not turned and not kept.
func TestShowStays(t *testing.T) {
	for _, s := range append(slices.Clone(around), "x:opaque", "x:", "x://", "x:/.//a", "http://a/b/c?d#e") {
		u := *from(t, s)
		handed, whole, turn := roomyURL(u)
		before := slices.Clone(whole)
		text := Show(handed)
		same := Same(handed, u)
		if !alike(handed, u) || !slices.Equal(whole, before) || !same {
			t.Errorf("Show or Same of %q turned it: %+v", s, handed)
		}
		turn()
		if want := refShow(u); text != want {
			t.Errorf("Show(%q) kept what was handed in: %q", s, text)
		}
	}
	for _, u := range []api.URL{{}, {Scheme: "alone"}, {Opaque: true, Path: []string{"alone"}}, {Path: []string{"alone"}}} {
		handed, _, turn := roomyURL(u)
		text := Show(handed)
		if turn(); text != refShow(u) {
			t.Errorf("Show(%+v) kept what was handed in: %q", u, text)
		}
	}
}

// TestOneAfterAnother: what was asked ahead is not told.
func TestOneAfterAnother(t *testing.T) {
	for _, s := range seeds {
		first, firstErr := Parse(s, nil)
		for _, other := range seeds {
			if u, e := Parse(other, &first); e == api.OK {
				Show(u)
				Same(u, first)
			}
		}
		again, e := Parse(s, nil)
		if e != firstErr || !alike(first, again) || Show(first) != Show(again) {
			t.Errorf("Parse(%q): %+v at first, then %+v", s, first, again)
		}
	}
}

func FuzzParse(f *testing.F) {
	for _, s := range seeds {
		f.Add(s, "http://a:81/b/c?q#f")
		f.Add("d", s)
	}
	f.Fuzz(func(t *testing.T, s, from string) {
		checkAny(t, s, nil)
		if base, e := Parse(from, nil); e == api.OK {
			checkAny(t, s, &base)
			if u, e := Parse(s, &base); e == api.OK {
				checkAny(t, from, &u)
			}
		}
	})
}
