package rules

import (
	"fmt"
	"math/rand"
	"slices"
	"strings"
	"testing"
	"unsafe"

	"shortcut/api"
)

const lost = "\uFFFD"

// pairs are pairs of a name and a value each.
func pairs(l ...string) []api.Pair {
	var out []api.Pair
	for half := range slices.Chunk(l, 2) {
		out = append(out, api.Pair{Name: half[0], Value: half[1]})
	}
	return out
}

// named are the rules of names; one that ends in * is of all names that begin so.
func named(l ...string) []api.Rule {
	var out []api.Rule
	for _, s := range l {
		name, front := strings.CutSuffix(s, "*")
		out = append(out, api.Rule{Name: name, Front: front})
	}
	return out
}

// checkOut holds Out against want, whatever the value is.
func checkOut(t *testing.T, want bool, name string, rules ...api.Rule) {
	t.Helper()
	for _, value := range []string{"", "v", name} {
		if Out(api.Pair{Name: name, Value: value}, rules...) != want {
			t.Errorf("Out(%q, %+v), of value %q: not %v", name, rules, value, want)
		}
	}
}

// checkStrip holds Strip against want, and that what was stripped is stripped no more: by all of the rules, by each of them, and by all one behind the other.
func checkStrip(t *testing.T, l, want []api.Pair, rules ...api.Rule) {
	t.Helper()
	got := Strip(l, rules...)
	if !slices.Equal(got, want) {
		t.Errorf("Strip(%q, %+v): %q, not %q", l, rules, got, want)
	}
	if again := Strip(got, rules...); !slices.Equal(again, got) {
		t.Errorf("Strip(%q, %+v) is stripped again: %q", got, rules, again)
	}
	alone := l
	for _, r := range rules {
		if again := Strip(got, r); !slices.Equal(again, got) {
			t.Errorf("Strip(%q, %+v) is stripped again by %+v: %q", got, rules, r, again)
		}
		alone = Strip(alone, r)
	}
	if !slices.Equal(alone, want) {
		t.Errorf("Strip(%q, %+v), a rule at a time: %q, not %q", l, rules, alone, want)
	}
}

// checkText holds Text against want, and that what was stripped is stripped no more.
func checkText(t *testing.T, s, want string, rules ...api.Rule) {
	t.Helper()
	got := Text(s, rules...)
	if got != want {
		t.Errorf("Text(%q, %+v): %q, not %q", s, rules, got, want)
	}
	if again := Text(got, rules...); again != got {
		t.Errorf("Text(%q, %+v) is stripped again: %q", got, rules, again)
	}
	alone := Text(s)
	for _, r := range rules {
		if again := Text(got, r); again != got {
			t.Errorf("Text(%q, %+v) is stripped again by %+v: %q", got, rules, r, again)
		}
		alone = Text(alone, r)
	}
	if alone != want {
		t.Errorf("Text(%q, %+v), a rule at a time: %q, not %q", s, rules, alone, want)
	}
}

// checkAny holds all that is asked of a name, a question and rules against the references.
func checkAny(t *testing.T, name, s string, rules ...api.Rule) {
	t.Helper()
	checkOut(t, refOut(name, rules), name, rules...)
	l := pairs(name, "1", s, "2", name, "3", "", name, name+s, s)
	checkStrip(t, l, refStrip(l, rules), rules...)
	checkText(t, s, refText(s, rules), rules...)
}

// P13.1: Out

func TestOrdinary(t *testing.T) {
	trackers := named("utm_*", "fbclid", "gclid")
	for _, name := range []string{"utm_", "utm_x", "utm_source", "fbclid", "gclid", "UTM_Source", "FbClId", "GCLID"} {
		checkOut(t, true, name, trackers...)
	}
	for _, name := range []string{"", "utm", "utm-x", "xutm_", " utm_x", "fbclidx", "fbcli", "xfbclid", "gclid ", "gclid_", "a", "u", "_", "utm%5Fx"} {
		checkOut(t, false, name, trackers...)
	}
}

func TestNoRules(t *testing.T) {
	for _, name := range []string{"", "a", "utm_x", "\x00", "\xff", "ü"} {
		checkOut(t, false, name)
		checkOut(t, false, name, []api.Rule{}...)
	}
}

// TestNoName: a rule without a Name is nobody's, with Front neither, and no hindrance to others.
func TestNoName(t *testing.T) {
	for _, name := range []string{"", "a", "utm_x", " ", "\x00", "\xff"} {
		checkOut(t, false, name, api.Rule{})
		checkOut(t, false, name, api.Rule{Front: true})
		checkOut(t, false, name, api.Rule{}, api.Rule{Front: true}, api.Rule{})
	}
	checkOut(t, true, "a", api.Rule{}, api.Rule{Front: true}, api.Rule{Name: "a"})
	checkOut(t, true, "a", api.Rule{Name: "a"}, api.Rule{}, api.Rule{Front: true})
	checkOut(t, true, "ab", api.Rule{Front: true}, api.Rule{Name: "a", Front: true}, api.Rule{})
	// A pair without a name is no rule's.
	checkOut(t, false, "", named("a", "a*", "\x00", "\x00*", " ", " *")...)
	checkOut(t, true, "\x00", named("\x00")...)
}

func TestLengths(t *testing.T) {
	for _, own := range []string{"a", "ab", "utm_", "fbclid", "ü", "\xff\xfe"} {
		for n := range len(own) {
			checkOut(t, false, own[:n], named(own)...)
			checkOut(t, false, own[:n], named(own+"*")...)
			checkOut(t, false, own[n+1:], named(own)...)
			checkOut(t, false, own[n+1:], named(own+"*")...)
		}
		checkOut(t, true, own, named(own)...)
		checkOut(t, true, own, named(own+"*")...)
		for _, more := range []string{"x", "X", "_", " ", "\x00", "\x80", "\xff", "ü", strings.Repeat("long", 1000)} {
			checkOut(t, false, own+more, named(own)...)
			checkOut(t, true, own+more, named(own+"*")...)
			checkOut(t, false, more+own, named(own)...)
			checkOut(t, more == own, more, named(own+"*")...)
			checkOut(t, false, more+own+more, named(own)...)
		}
	}
	// What stands ahead of it, within it, or instead of its last sign is none.
	checkOut(t, false, "xutm_", named("utm_*")...)
	checkOut(t, false, "utmx_", named("utm_*")...)
	checkOut(t, false, "utmx", named("utm_*")...)
	checkOut(t, false, "vtm_", named("utm_*")...)
	// No sign of a Name stands for others.
	checkOut(t, true, "a*b", api.Rule{Name: "a*b"})
	checkOut(t, false, "axb", api.Rule{Name: "a*b"})
	checkOut(t, false, "ab", api.Rule{Name: "a*"})
	checkOut(t, false, "ab", api.Rule{Name: "a?"})
	checkOut(t, false, "ab", api.Rule{Name: "a.", Front: true})
	checkOut(t, false, "a", api.Rule{Name: "%61"})
}

// TestBytes: each byte of a rule's Name against each of a pair's name.
func TestBytes(t *testing.T) {
	for x := range 256 {
		for y := range 256 {
			want := x == y || 'A' <= x && x <= 'Z' && y == x+32 || 'a' <= x && x <= 'z' && y == x-32
			own, name := string([]byte{byte(x)}), string([]byte{byte(y)})
			for _, front := range []bool{false, true} {
				checkOut(t, want, name, api.Rule{Name: own, Front: front})
				checkOut(t, want, "a"+name+"b", api.Rule{Name: "A" + own + "B", Front: front})
				checkOut(t, want && front, name+"b", api.Rule{Name: own, Front: front})
			}
		}
	}
}

func TestLetters(t *testing.T) {
	const large, little = "ABCDEFGHIJKLMNOPQRSTUVWXYZ", "abcdefghijklmnopqrstuvwxyz"
	checkOut(t, true, large, named(little)...)
	checkOut(t, true, little, named(large)...)
	checkOut(t, true, large, named(large)...)
	checkOut(t, true, little+"x", named(large+"*")...)
	checkOut(t, true, large+"x", named(little+"*")...)
	checkOut(t, true, "uTm_X", named("UtM_*")...)
	// The neighbours of A-Z and a-z.
	checkOut(t, false, "@[`{", named("`{@[")...)
	checkOut(t, false, "`", named("@", "@*")...)
	checkOut(t, false, "{", named("[", "[*")...)
	checkOut(t, false, "[", named("{", ";", "{*")...)
	checkOut(t, false, "0", named("P", "\x10")...)
	checkOut(t, false, "_", named("\x7F", "?")...)
	// Letters beyond ASCII are as they are, those that are large or small ones of ASCII's elsewhere too.
	for large, little := range map[string]string{
		"Ä": "ä", "É": "é", "Σ": "σ", "σ": "ς", "Я": "я", "\u212A": "k", "\u017F": "s", "\u0130": "i", "\u0131": "I", "ẞ": "ß", "ß": "ss", "Ａ": "a", "ａ": "Ａ", "\xC4": "\xE4", "\xC1": "\xE1", "\xDA": "\xFA", "e\u0301": "é", "\xff": lost, "ﬀ": "ff",
	} {
		for _, add := range []string{"", "*"} {
			checkOut(t, false, large, named(little+add)...)
			checkOut(t, false, little, named(large+add)...)
			checkOut(t, false, "x"+large, named("X"+little+add)...)
			checkOut(t, true, "x"+large, named("X"+large+add)...)
			checkOut(t, true, "X"+little, named("x"+little+add)...)
		}
	}
	// Front goes by bytes, so a name may begin with part of a code point.
	checkOut(t, true, "ü", named("\xC3*")...)
	checkOut(t, false, "ü", named("\xC3")...)
}

func TestSeveralRules(t *testing.T) {
	all := named("a", "b*", "c", "a", "*", "", "a*")
	for n := range len(all) {
		checkOut(t, n > 0, "a", all[:n]...)
		checkOut(t, n > 1, "bx", all[:n]...)
		checkOut(t, n > 2, "C", all[:n]...)
		checkOut(t, false, "ax", all[:n]...)
		checkOut(t, false, "d", all[:n]...)
	}
	checkOut(t, true, "ax", all...)
	// One rule is Front, and another has the Name: no rule is put together of two.
	checkOut(t, false, "ab", api.Rule{Name: "a"}, api.Rule{Name: "x", Front: true})
	checkOut(t, false, "ab", named("a", "b*", "b")...)
	// More rules than an address's policy has.
	var many []api.Rule
	for i := range 1000 {
		many = append(many, api.Rule{Name: fmt.Sprintf("n%d", i)})
	}
	checkOut(t, true, "N999", many...)
	checkOut(t, true, "n0", many...)
	checkOut(t, false, "n1000", many...)
	checkOut(t, false, "n", many...)
}

// P13.1: Strip

func TestStrip(t *testing.T) {
	trackers := named("utm_*", "fbclid", "")
	checkStrip(t, pairs("a", "1", "utm_x", "2", "b", "", "fbclid", "3", "a", "4"), pairs("a", "1", "b", "", "a", "4"), trackers...)
	checkStrip(t, pairs("utm_x", "2", "a", "1"), pairs("a", "1"), trackers...)
	checkStrip(t, pairs("a", "1", "utm_x", "2"), pairs("a", "1"), trackers...)
	checkStrip(t, pairs("utm_x", "1", "utm_y", "2", "FBCLID", "3", "utm_x", "1"), nil, trackers...)
	checkStrip(t, pairs("a", "1"), pairs("a", "1"), trackers...)
	checkStrip(t, pairs("a", "utm_x", "b", "fbclid"), pairs("a", "utm_x", "b", "fbclid"), trackers...)
	checkStrip(t, pairs("", "utm_x", "", "", "utm_", ""), pairs("", "utm_x", "", ""), trackers...)
	// What is left is left as it is: letters and bytes that are no UTF-8 too.
	odd := pairs("A", "B", "Ü", "\xff", "\xff", "%zz", "a b", "c+d", "&", "=", "", "")
	checkStrip(t, odd, odd, trackers...)
}

func TestStripNothing(t *testing.T) {
	for _, rules := range [][]api.Rule{nil, {}, named("a"), named("a*", "b", "")} {
		checkStrip(t, nil, nil, rules...)
		checkStrip(t, []api.Pair{}, nil, rules...)
	}
	l := pairs("b", "1", "a", "2", "", "3", "b", "1", "utm_x", "")
	for _, rules := range [][]api.Rule{nil, {}, {{}}, {{Front: true}}, named("", "*", "c", "utm", "utm_x_*", "ba*")} {
		checkStrip(t, l, l, rules...)
	}
}

// TestStripOrder: those of one name stay in their order, with all that stand between.
func TestStripOrder(t *testing.T) {
	l := pairs("b", "1", "a", "2", "b", "3", "x", "4", "A", "5", "a", "2", "b", "1", "a", "6")
	checkStrip(t, l, pairs("b", "1", "a", "2", "b", "3", "A", "5", "a", "2", "b", "1", "a", "6"), named("x")...)
	checkStrip(t, l, pairs("b", "1", "b", "3", "x", "4", "b", "1"), named("a")...)
	checkStrip(t, l, pairs("a", "2", "x", "4", "A", "5", "a", "2", "a", "6"), named("B*")...)
	checkStrip(t, l, pairs("x", "4"), named("B*", "a")...)
	checkStrip(t, l, pairs("x", "4"), named("a", "b")...)
}

// TestTwoRules: a pair that two rules are is left out once, and no other with it.
func TestTwoRules(t *testing.T) {
	l := pairs("ax", "1", "b", "2", "ay", "3", "b", "4")
	checkStrip(t, l, pairs("b", "2", "ay", "3", "b", "4"), named("ax", "ax")...)
	checkStrip(t, l, pairs("b", "2", "b", "4"), named("a*", "ax")...)
	checkStrip(t, l, pairs("b", "2", "b", "4"), named("ax", "A*", "AY")...)
	checkStrip(t, l, nil, named("ax", "a*", "b", "b*")...)
}

func TestStripMany(t *testing.T) {
	var l, want []api.Pair
	for i := range 100000 {
		p := api.Pair{Name: fmt.Sprint("n", i%7), Value: fmt.Sprint(i)}
		l = append(l, p)
		if i%7 != 3 && i%7 != 5 {
			want = append(want, p)
		}
	}
	checkStrip(t, l, want, named("N3", "n5*", "n")...)
	long := strings.Repeat("aB", 1<<20)
	checkStrip(t, pairs(long, long, long+"c", "1"), pairs(long+"c", "1"), named(strings.ToUpper(long))...)
	checkStrip(t, pairs(long, long, long+"c", "1"), nil, named(strings.ToLower(long)+"*")...)
	checkStrip(t, pairs(long, long), pairs(long, long), named(long+"c*", long+"c")...)
}

// P13.1: Text

func TestText(t *testing.T) {
	trackers := named("utm_*", "fbclid")
	checkText(t, "utm_x=1&a=2", "a=2", named("utm_*")...)
	checkText(t, "a=2&utm_x=1&b=3", "a=2&b=3", trackers...)
	checkText(t, "a=2&UTM_x=1&b=3&fbClid", "a=2&b=3", trackers...)
	checkText(t, "b=1&a=2&b=0&a=2", "b=1&a=2&b=0&a=2", trackers...)
	checkText(t, "utm_x=1&fbclid=2&utm_=", "", trackers...)
	checkText(t, "a=utm_x&b=fbclid&utm=1&fbclidx=2&xutm_=3", "a=utm_x&b=fbclid&utm=1&fbclidx=2&xutm_=3", trackers...)
	checkText(t, "", "", trackers...)
	checkText(t, "", "")
	checkText(t, "utm_x=1&a=2", "utm_x=1&a=2")
	checkText(t, "utm_x=1&a=2", "utm_x=1&a=2", []api.Rule{{}, {Front: true}}...)
}

// TestTextRead: rules are asked of what a question is read as, and what is left is written as query writes.
func TestTextRead(t *testing.T) {
	trackers := named("utm_*", "fb clid", "a&b", "c=d", "100%", "x+y", "ü", lost)
	checkText(t, "utm%5Fx=1&a=2", "a=2", trackers...)
	checkText(t, "%75%54m_x&a", "a=", trackers...)
	checkText(t, "fb+clid=1&fb%20CLID=2&fb%2Bclid=3&fb clid=4", "fb%2Bclid=3", trackers...)
	checkText(t, "x+y=1&x%2By=2&x%20y=3", "x+y=1&x+y=3", trackers...)
	checkText(t, "a%26b=1&a&b=2", "a=&b=2", trackers...)
	checkText(t, "c%3Dd=1&c=d", "c=d", trackers...)
	checkText(t, "100%=1&100%25=2&100%2525=3", "100%2525=3", trackers...)
	checkText(t, "%C3%BC=1&ü=2&%C3%9C=3&%c3=4&\xff", "%C3%9C=3", trackers...)
	// Pairs with no = and with nothing ahead of it, pieces of no bytes.
	checkText(t, "fbclid&a", "a=", named("fbclid")...)
	checkText(t, "a&b=&=c&=", "a=&b=&=c&=", named("c")...)
	checkText(t, "&&a=1&&utm_x&&&b=2&", "a=1&b=2", trackers...)
	checkText(t, "&", "", trackers...)
	checkText(t, "&&&", "")
	checkText(t, "=utm_x&==", "=utm_x&=%3D", trackers...)
	checkText(t, "a=b=c&utm_x=b=c", "a=b%3Dc", trackers...)
	// With no rule too, what is read is written anew.
	checkText(t, "a&b=c%20d&&e=%ff", "a=&b=c+d&e=%EF%BF%BD")
	checkText(t, "~=%7e&*=%2a&%41=%zz", "%7E=%7E&*=*&A=%25zz")
	checkText(t, "?utm_x=1;a=2#c", "%3Futm_x=1%3Ba%3D2%23c", trackers...)
	checkText(t, "\xEF\xBB\xBFutm_x=1", "%EF%BB%BFutm_x=1", trackers...)
}

// TestTextMost: query.Parse leaves out what comes behind api.MaxPairs pairs, ahead of any rule.
func TestTextMost(t *testing.T) {
	some := strings.Repeat("utm_x=1&", api.MaxPairs-1)
	checkText(t, some+"a=1&b=2", "a=1", named("utm_*")...)
	checkText(t, some+"utm_x=1&b=2", "", named("utm_*")...)
	checkText(t, some+"&&a=1", "a=1", named("utm_*")...)
	checkText(t, some+"a=1&b=2", some+"a=1")
	const n = 1 << 18
	checkText(t, strings.Repeat("a", n)+"=%&"+strings.Repeat("&", n)+strings.Repeat("A", n+1), strings.Repeat("A", n+1)+"=", named(strings.Repeat("A", n))...)
}

// What follows, and R1 to R4

// TestShortTexts: all rules of few signs, and all names and questions of few signs.
func TestShortTexts(t *testing.T) {
	texts := []string{""}
	for from := 0; len(texts[from]) < 3; from++ {
		for _, sign := range []string{"a", "A", "b", "&", "="} {
			texts = append(texts, texts[from]+sign)
		}
	}
	for _, own := range texts {
		for _, s := range texts {
			checkAny(t, s, s, api.Rule{Name: own})
			checkAny(t, s, s, api.Rule{Name: own, Front: true})
		}
	}
}

var signs = []string{"a", "A", "a", "A", "b", "B", "Z", "k", "\u212A", "_", "@", "`", "[", "{", " ", "+", "%", "%41", "%61", "=", "=", "=", "&", "&", "&", "&", "\x00", "\x7F", "\xE4", "\xC4", "ä", "Ä", "\xff", lost, "utm_", "UTM_"}

func randomText(r *rand.Rand, most int) string {
	var b strings.Builder
	for range r.Intn(most + 1) {
		b.WriteString(signs[r.Intn(len(signs))])
	}
	return b.String()
}

func randomRules(r *rand.Rand) []api.Rule {
	var out []api.Rule
	for range r.Intn(api.MaxRules + 1) {
		own := signs[r.Intn(1+r.Intn(len(signs)))]
		if r.Intn(4) == 0 {
			own = randomText(r, 2)
		}
		out = append(out, api.Rule{Name: own, Front: r.Intn(2) == 0})
	}
	return out
}

func TestRandomTexts(t *testing.T) {
	r := rand.New(rand.NewSource(13))
	var all, some, none int
	for range 40000 {
		name, s, rules := randomText(r, 3), randomText(r, 12), randomRules(r)
		checkAny(t, name, s, rules...)
		switch was := Text(s); Text(s, rules...) {
		case was:
			none++
		case "":
			all++
		default:
			some++
		}
	}
	if all < 2000 || some < 2000 || none < 5000 {
		t.Errorf("of the questions %d lost all, %d some, %d none", all, some, none)
	}
}

func TestRandomBytes(t *testing.T) {
	r := rand.New(rand.NewSource(1313))
	bytes := func() string {
		b := make([]byte, r.Intn(4))
		for i := range b {
			b[i] = byte(r.Intn(256))
		}
		return string(b)
	}
	for range 20000 {
		own := bytes()
		turned := strings.NewReplacer("a", "A", "B", "b", "\xC4", "\xE4").Replace(own)
		checkAny(t, own+bytes(), turned, api.Rule{Name: own, Front: r.Intn(2) == 0}, api.Rule{Name: bytes()})
		checkAny(t, turned+bytes(), bytes(), api.Rule{Name: own, Front: true})
	}
}

var seeds = []string{"", "a", "utm_x", "UTM_", "fbclid", "ü", "\xff\xfe", "a b", "a&utm_x=1&b", "=&="}

// TestHandedInStays: what shares its bytes with a buffer is not changed and not kept.
func TestHandedInStays(t *testing.T) {
	for _, s := range seeds {
		room := []byte("##" + s + "utm_##")
		handed, own := unsafe.String(&room[2], len(s)), unsafe.String(&room[2+len(s)], 4)
		l, rules := pairs(handed, handed, "x", handed), []api.Rule{{Name: own, Front: true}}
		left, text, out := Strip(l, rules...), Text(handed, rules...), Out(l[0], rules...)
		if string(room) != "##"+s+"utm_##" {
			t.Errorf("of %q: what was handed in was changed: %q", s, room)
		}
		for i := range room {
			room[i] = 'q'
		}
		was, rule := pairs(s, s, "x", s), named("utm_*")
		if want := refStrip(was, rule); !slices.Equal(left, want) {
			t.Errorf("Strip(%q) kept what was handed in: %q, not %q", was, left, want)
		}
		if text != refText(s, rule) || out != refOut(s, rule) {
			t.Errorf("of %q: %q, %v", s, text, out)
		}
	}
}

// TestListsStay: lists that are handed in are not turned and not shared, spare room neither.
func TestListsStay(t *testing.T) {
	for _, own := range []string{"a", "b*", "c", "*", ""} {
		whole := pairs("a", "1", "b", "2", "a", "3", "spare", "room", "spare", "room")
		rules := named(own, "bb*", "spare", "s*")
		before, ruled := slices.Clone(whole), slices.Clone(rules)
		for n := range 4 {
			left := Strip(whole[:n], rules[:2]...)
			want := refStrip(before[:n], ruled[:2])
			for i := range left {
				left[i] = api.Pair{Name: "changed", Value: "changed"}
			}
			_ = append(left, pairs("more", "1", "more", "2", "more", "3", "more", "4")...)
			if !slices.Equal(whole, before) || !slices.Equal(rules, ruled) {
				t.Fatalf("by %q: what was handed in was turned, or shared: %q, %+v", own, whole, rules)
			}
			left = Strip(whole[:n], rules[:2]...)
			clear(whole)
			clear(rules)
			if !slices.Equal(left, want) {
				t.Errorf("by %q: Strip kept what was handed in: %q, not %q", own, left, want)
			}
			copy(whole, before)
			copy(rules, ruled)
		}
	}
}

// TestAnswersApart: two answers share no memory, whatever is done to one of them.
func TestAnswersApart(t *testing.T) {
	l := pairs("a", "1", "b", "2", "c", "3")
	for _, rules := range [][]api.Rule{nil, named("a"), named("c"), named("a", "b", "c"), named("x")} {
		first, second := Strip(l, rules...), Strip(l, rules...)
		whole := first[:cap(first)]
		for i := range whole {
			whole[i] = api.Pair{Name: "changed", Value: "changed"}
		}
		if want := refStrip(l, rules); !slices.Equal(second, want) || !slices.Equal(Strip(l, rules...), want) {
			t.Errorf("Strip(%q, %+v): %q, not %q, when an answer ahead was turned", l, rules, second, want)
		}
	}
}

// TestOneAfterAnother: what was asked ahead is not told, and its rules hold no more.
func TestOneAfterAnother(t *testing.T) {
	checkText(t, "a=1&b=2", "b=2", named("a")...)
	checkText(t, "a=1&b=2", "a=1&b=2")
	checkText(t, "a=1&b=2", "a=1", named("b")...)
	checkText(t, "", "", named("b")...)
	checkStrip(t, nil, nil, named("b")...)
	checkOut(t, true, "b", named("b")...)
	checkOut(t, false, "b")
	for _, s := range seeds {
		first := Text(s, named("utm_*")...)
		for _, other := range seeds {
			Text(other, named(other, other+"*")...)
		}
		if again := Text(s, named("utm_*")...); again != first {
			t.Errorf("Text(%q): %q at first, then %q", s, first, again)
		}
	}
}

func FuzzText(f *testing.F) {
	for _, s := range seeds {
		f.Add(s, s, "utm_", true)
		f.Add(s, s, s, false)
	}
	f.Fuzz(func(t *testing.T, name, s, own string, front bool) {
		checkAny(t, name, s, api.Rule{Name: own, Front: front})
		checkAny(t, name, s, api.Rule{Name: name, Front: front}, api.Rule{Name: own})
	})
}
