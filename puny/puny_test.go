package puny

import (
	"math"
	"math/big"
	"math/rand"
	"slices"
	"strings"
	"testing"

	"shortcut/api"
)

const spareRune = 0x5A5A

// withSpare hands out content with spare room behind it, and the whole memory, so that a test can see both.
func withSpare(content []rune) (l, memory []rune) {
	memory = append(slices.Clone(content), slices.Repeat([]rune{spareRune}, 80)...)
	return memory[:len(content)], memory
}

type sample struct {
	l []rune
	s string
}

// rfcSamples: section 7.1 of RFC 3492, from (A) to (S), the large D of (I) made small.
func rfcSamples() []sample {
	return []sample{
		{[]rune{0x644, 0x64A, 0x647, 0x645, 0x627, 0x628, 0x62A, 0x643, 0x644, 0x645, 0x648, 0x634, 0x639, 0x631, 0x628, 0x64A, 0x61F}, "egbpdaj6bu4bxfgehfvwxn"},
		{[]rune{0x4ED6, 0x4EEC, 0x4E3A, 0x4EC0, 0x4E48, 0x4E0D, 0x8BF4, 0x4E2D, 0x6587}, "ihqwcrb4cv8a8dqg056pqjye"},
		{[]rune{0x4ED6, 0x5011, 0x7232, 0x4EC0, 0x9EBD, 0x4E0D, 0x8AAA, 0x4E2D, 0x6587}, "ihqwctvzc91f659drss3x8bo0yb"},
		{[]rune("Pro\u010Dprost\u011Bnemluv\u00ED\u010Desky"), "Proprostnemluvesky-uyb24dma41a"},
		{[]rune{0x5DC, 0x5DE, 0x5D4, 0x5D4, 0x5DD, 0x5E4, 0x5E9, 0x5D5, 0x5D8, 0x5DC, 0x5D0, 0x5DE, 0x5D3, 0x5D1, 0x5E8, 0x5D9, 0x5DD, 0x5E2, 0x5D1, 0x5E8, 0x5D9, 0x5EA}, "4dbcagdahymbxekheh6e0a7fei0b"},
		{[]rune{0x92F, 0x939, 0x932, 0x94B, 0x917, 0x939, 0x93F, 0x928, 0x94D, 0x926, 0x940, 0x915, 0x94D, 0x92F, 0x94B, 0x902, 0x928, 0x939, 0x940, 0x902, 0x92C, 0x94B, 0x932, 0x938, 0x915, 0x924, 0x947, 0x939, 0x948, 0x902}, "i1baa7eci9glrd9b2ae1bj0hfcgg6iyaf8o0a1dig0cd"},
		{[]rune{0x306A, 0x305C, 0x307F, 0x3093, 0x306A, 0x65E5, 0x672C, 0x8A9E, 0x3092, 0x8A71, 0x3057, 0x3066, 0x304F, 0x308C, 0x306A, 0x3044, 0x306E, 0x304B}, "n8jok5ay5dzabd5bym9f0cm5685rrjetr6pdxa"},
		{[]rune{0xC138, 0xACC4, 0xC758, 0xBAA8, 0xB4E0, 0xC0AC, 0xB78C, 0xB4E4, 0xC774, 0xD55C, 0xAD6D, 0xC5B4, 0xB97C, 0xC774, 0xD574, 0xD55C, 0xB2E4, 0xBA74, 0xC5BC, 0xB9C8, 0xB098, 0xC88B, 0xC744, 0xAE4C}, "989aomsvi5e83db1d2a355cv1e0vak1dwrv93d5xbh15a0dt30a5jpsd879ccm6fea98c"},
		{[]rune{0x43F, 0x43E, 0x447, 0x435, 0x43C, 0x443, 0x436, 0x435, 0x43E, 0x43D, 0x438, 0x43D, 0x435, 0x433, 0x43E, 0x432, 0x43E, 0x440, 0x44F, 0x442, 0x43F, 0x43E, 0x440, 0x443, 0x441, 0x441, 0x43A, 0x438}, "b1abfaaepdrnnbgefbadotcwatmq2g4l"},
		{[]rune("Porqu\u00E9nopuedensimplementehablarenEspa\u00F1ol"), "PorqunopuedensimplementehablarenEspaol-fmd56a"},
		{[]rune("T\u1EA1isaoh\u1ECDkh\u00F4ngth\u1EC3ch\u1EC9n\u00F3iti\u1EBFngVi\u1EC7t"), "TisaohkhngthchnitingVit-kjcr8268qyxafd2f1b9g"},
		{[]rune("3\u5E74B\u7D44\u91D1\u516B\u5148\u751F"), "3B-ww4c5e180e575a65lsy2b"},
		{[]rune("\u5B89\u5BA4\u5948\u7F8E\u6075-with-SUPER-MONKEYS"), "-with-SUPER-MONKEYS-pc58ag80a8qai00g7n9n"},
		{[]rune("Hello-Another-Way-\u305D\u308C\u305E\u308C\u306E\u5834\u6240"), "Hello-Another-Way--fc4qua05auwb3674vfr0b"},
		{[]rune("\u3072\u3068\u3064\u5C4B\u6839\u306E\u4E0B2"), "2-u9tlzr9756bt3uc0v"},
		{[]rune("Maji\u3067Koi\u3059\u308B5\u79D2\u524D"), "MajiKoi5-783gue6qz075azm5e"},
		{[]rune("\u30D1\u30D5\u30A3\u30FCde\u30EB\u30F3\u30D0"), "de-jg4avhby1noc0d"},
		{[]rune("\u305D\u306E\u30B9\u30D4\u30FC\u30C9\u3067"), "d9juau41awczczp"},
		{[]rune("-> $1.00 <-"), "-> $1.00 <--"},
	}
}

func ownSamples() []sample {
	return []sample{
		{[]rune("b\u00FCcher"), "bcher-kva"},

		// none at all; signs below 128 alone
		{nil, ""},
		{[]rune{}, ""},
		{[]rune("a"), "a-"},
		{[]rune("abc"), "abc-"},
		{[]rune("ABC"), "ABC-"},
		{[]rune("zyx 0!~"), "zyx 0!~-"},
		{[]rune{0}, "\x00-"},
		{[]rune{0, 0x7F}, "\x00\x7F-"},

		// delimiters among the signs, ahead of all, behind all
		{[]rune("-"), "--"},
		{[]rune("--"), "---"},
		{[]rune("-a"), "-a-"},
		{[]rune("a-"), "a--"},
		{[]rune("a-b"), "a-b-"},
		{[]rune("-\u0080"), "--ba"},
		{[]rune("\u0080-"), "--a"},
		{[]rune("M\u00FCnchen-Ost"), "Mnchen-Ost-9db"},

		// others alone
		{[]rune{0x80}, "a"},
		{[]rune{0x80, 0x80}, "aa"},
		{[]rune{0x81}, "ba"},
		{[]rune{0xFC}, "tda"},
		{[]rune{0xFF}, "wda"},
		{slices.Repeat([]rune{0x80}, 63), strings.Repeat("a", 63)},
	}
}

func allSamples() []sample { return append(rfcSamples(), ownSamples()...) }

// digitsOf tells where the digits of s, which is a sample's, begin.
func digitsOf(s string) int {
	if at := strings.LastIndex(s, "-"); at > 0 {
		return at + 1
	}
	return 0
}

func checkEncode(t *testing.T, l []rune, want string, wantErr api.Errno) {
	t.Helper()
	if got, e := Encode(l); got != want || e != wantErr {
		t.Errorf("Encode(%x): %q, %d, not %q, %d", l, got, e, want, wantErr)
	}
}

func checkDecode(t *testing.T, s string, want []rune, wantErr api.Errno) {
	t.Helper()
	if got, e := Decode(s); !slices.Equal(got, want) || e != wantErr {
		t.Errorf("Decode(%q): %x, %d, not %x, %d", s, got, e, want, wantErr)
	}
}

func checkNone(t *testing.T, s string) {
	t.Helper()
	checkDecode(t, s, nil, api.ErrForm)
}

// checkDecodeAsRef holds Decode against the reference, and what it told against Encode: s again, its digits' letters small.
func checkDecodeAsRef(t *testing.T, s string) {
	t.Helper()
	want, wantErr := refDecode(s)
	checkDecode(t, s, want, wantErr)
	if wantErr == api.OK {
		at := digitsOf(s)
		checkEncode(t, want, s[:at]+strings.ToLower(s[at:]), api.OK)
	}
}

// checkBothAsRef holds Encode against the reference, and Decode of what it told against what was encoded.
func checkBothAsRef(t *testing.T, l []rune) {
	t.Helper()
	s, e := refEncode(l)
	checkEncode(t, l, s, e)
	switch {
	case e != api.OK:
	case len(s) > 200:
		checkNone(t, s)
	default:
		checkDecode(t, s, l, api.OK)
	}
}

// P5.1

func TestSamples(t *testing.T) {
	for _, x := range allSamples() {
		checkEncode(t, x.l, x.s, api.OK)
		checkDecode(t, x.s, x.l, api.OK)
	}
}

// The reference itself is held against the samples, so that what it says can be believed.
func TestReference(t *testing.T) {
	for _, x := range allSamples() {
		if s, e := refEncode(x.l); s != x.s || e != api.OK {
			t.Errorf("encode %x: %q, %d", x.l, s, e)
		}
		if l, e := refDecode(x.s); !slices.Equal(l, x.l) || e != api.OK {
			t.Errorf("decode %q: %x, %d", x.s, l, e)
		}
	}
}

func TestLettersLargeAndSmall(t *testing.T) {
	for _, x := range allSamples() {
		at := digitsOf(x.s)
		checkDecode(t, x.s[:at]+strings.ToUpper(x.s[at:]), x.l, api.OK)
		for i := at; i < len(x.s); i++ {
			checkDecode(t, x.s[:i]+strings.ToUpper(x.s[i:i+1])+x.s[i+1:], x.l, api.OK)
		}
	}
	// The signs that are written as they are keep their size.
	checkDecode(t, "bcher-kva", []rune("b\u00FCcher"), api.OK)
	checkDecode(t, "BCHER-KVA", []rune("B\u00FCCHER"), api.OK)
	checkEncode(t, []rune("B\u00FCCHER"), "BCHER-kva", api.OK)
	checkDecode(t, "b1abfaaepdrnnbgefbaDotcwatmq2g4l", rfcSamples()[8].l, api.OK)
}

func TestEachDigit(t *testing.T) {
	const all = "abcdefghijklmnopqrstuvwxyz0123456789"
	for d := range 36 {
		// One that is 1 or more is followed by another: the number is d + 35 * 0.
		s := all[d : d+1]
		if d > 0 {
			s += "a"
		}
		checkDecode(t, s, []rune{rune(128 + d)}, api.OK)
		checkEncode(t, []rune{rune(128 + d)}, s, api.OK)
	}
}

func noCodePoints() []rune {
	return []rune{
		0xD800, 0xD801, 0xDBFF, 0xDC00, 0xDFFE, 0xDFFF,
		0x110000, 0x110001, 0x110061, 0x1100FC, 0x200061, 0x1000061, 0x7FFFFFFE, math.MaxInt32,
		-1, -2, -'a', -128, -0xFC, -0x100 + 'a', -0x10000 + 'a', -0x110000, -0x200000 + 0xFC,
		math.MinInt32, math.MinInt32 + 'a', math.MinInt32 + 0xFC,
	}
}

func edgeCodePoints() []rune {
	return []rune{0, 1, '-', 'a', 0x7E, 0x7F, 0x80, 0x81, 0xFF, 0x100, 0x7FF, 0x800, 0xD7FE, 0xD7FF, 0xE000, 0xE001, 0xFFFD, 0xFFFE, 0xFFFF, 0x10000, 0x10001, 0x10FFFE, 0x10FFFF}
}

func TestEncodeOfNone(t *testing.T) {
	for _, none := range noCodePoints() {
		for size := range 64 {
			for _, fill := range []rune{'a', 0xFC, 0x10FFFF} {
				l := slices.Repeat([]rune{fill}, size+1)
				l[size/2] = none
				checkEncode(t, l, "", api.ErrArg)
			}
		}
		for at := range 63 {
			l := slices.Repeat([]rune{'a', 0xFC, '-'}, 21)
			l[at] = none
			checkEncode(t, l, "", api.ErrArg)
		}
	}
}

func TestEachCodePointAlone(t *testing.T) {
	for r := rune(-0x2000); r <= 0x112000; r++ {
		s, e := Encode([]rune{r})
		if !refIsCode(r) {
			if s != "" || e != api.ErrArg {
				t.Fatalf("Encode(%#x): %q, %d", r, s, e)
			}
			continue
		}
		if e != api.OK {
			t.Fatalf("Encode(%#x): %d", r, e)
		}
		if l, e := Decode(s); e != api.OK || len(l) != 1 || l[0] != r {
			t.Fatalf("Decode(%q): %x, %d, not %x", s, l, e, r)
		}
	}
	for r := rune(0); r <= 0x110100; r += 97 {
		checkBothAsRef(t, []rune{r})
		checkBothAsRef(t, []rune{'x', r, '-'})
	}
}

func TestEdgesBesideEachOther(t *testing.T) {
	edges := edgeCodePoints()
	checkBothAsRef(t, edges)
	slices.Reverse(edges)
	checkBothAsRef(t, edges)
	for _, a := range edges {
		for _, b := range edges {
			checkBothAsRef(t, []rune{a, b})
			checkBothAsRef(t, []rune{b, 'z', a, b})
		}
	}
}

// withOneMore tells what l, which is signs below 128 alone, would be encoded as if code stood at place too; code may be none.
func withOneMore(l []rune, code, place int64) string {
	s, _ := refEncode(l)
	delta := plus(times(whole(code-128), whole(int64(len(l)+1))), whole(place))
	return s + refNumber(delta, 72)
}

func TestLastCodePointsAmidEachNumberOfSigns(t *testing.T) {
	for size := range 63 {
		l := slices.Repeat([]rune{'x'}, size)
		for place := range size + 1 {
			for _, code := range []rune{0x80, 0xD7FF, 0xE000, 0x10FFFF} {
				want := slices.Insert(slices.Clone(l), place, code)
				checkDecode(t, withOneMore(l, int64(code), int64(place)), want, api.OK)
				checkBothAsRef(t, want)
			}
			for _, code := range []int64{0xD800, 0xD801, 0xDBFF, 0xDC00, 0xDFFF, 0x110000, 0x110001, 0x110080} {
				checkNone(t, withOneMore(l, code, int64(place)))
			}
		}
	}
}

func TestDecodeOfEachHalf(t *testing.T) {
	for code := int64(0xD800); code <= 0xDFFF; code++ {
		checkNone(t, withOneMore(nil, code, 0))
		checkNone(t, withOneMore([]rune("ab"), code, 1))
	}
}

// A code point that is none is told also where others follow that would be some.
func TestNoneAmidOthers(t *testing.T) {
	for _, s := range []string{withOneMore(nil, 0xD800, 0), withOneMore(nil, 0xDFFF, 0), withOneMore(nil, 0x110000, 0)} {
		for n := range 20 {
			checkDecodeAsRef(t, s+strings.Repeat("a", n))
			checkNone(t, s+strings.Repeat("a", n))
		}
	}
}

func TestMaxLabel(t *testing.T) {
	for _, fill := range [][]rune{{'a'}, {'-'}, {0}, {0x80}, {0xFC}, {0x20AC, 'b'}, {0xE000, 0xFC, '-', 'A'}} {
		for size := range 64 {
			l := slices.Repeat(fill, 64)[:size]
			checkBothAsRef(t, l)
			s, _ := Encode(l)
			checkDecode(t, s, l, api.OK)
		}
		for _, size := range []int{64, 65, 127, 128, 200, 256, 1000} {
			checkEncode(t, slices.Repeat(fill, 1000)[:size], "", api.ErrArg)
		}
	}
}

func TestDecodeOfMoreThanMaxLabel(t *testing.T) {
	for plain := range 200 {
		for others := range 200 - plain {
			s := strings.Repeat("a", others)
			if plain > 0 {
				s = strings.Repeat("x", plain) + "-" + s
			}
			if plain+others > 63 {
				checkNone(t, s)
				continue
			}
			want := slices.Concat(slices.Repeat([]rune{0x80}, others), slices.Repeat([]rune{'x'}, plain))
			checkDecode(t, s, want, api.OK)
		}
	}
}

// listsBySize tells lists of code points by how many bytes they are encoded as.
func listsBySize() map[int][]rune {
	out := make(map[int][]rune)
	for others := 40; others <= 63; others++ {
		for plain := 0; plain+others <= 63; plain++ {
			l := slices.Repeat([]rune{'p'}, plain)
			for i := range others {
				l = append(l, rune(0xE000+i*0x4000))
			}
			s, _ := refEncode(l)
			out[len(s)] = l
		}
	}
	return out
}

func TestTwoHundredBytes(t *testing.T) {
	lists := listsBySize()
	for size := 195; size <= 205; size++ {
		l := lists[size]
		if l == nil {
			t.Fatalf("no list is encoded as %d bytes", size)
		}
		s, _ := refEncode(l)
		checkEncode(t, l, s, api.OK)
		if size > 200 {
			checkNone(t, s)
			continue
		}
		checkDecode(t, s, l, api.OK)
		at := digitsOf(s)
		checkDecode(t, s[:at]+strings.ToUpper(s[at:]), l, api.OK)
	}
	for _, size := range []int{199, 200, 201, 202, 255, 256, 257, 1000, 1 << 16, 1 << 20} {
		for _, fill := range []string{"a", "b", "z", "9", "-", "\x00", "\xFF"} {
			checkNone(t, strings.Repeat(fill, size))
		}
		checkNone(t, "a-"+strings.Repeat("9", size))
		checkNone(t, strings.Repeat("a", size)+"-")
	}
}

// Of MaxLabel code points far from each other all is told, though it is more than Decode takes.
func TestEncodeOfThoseFarFromEachOther(t *testing.T) {
	var l []rune
	for i := range rune(63) {
		l = append(l, 0x10FFFF-i*0x4400)
	}
	checkBothAsRef(t, l)
	s, e := Encode(l)
	if len(s) <= 200 || e != api.OK {
		t.Errorf("Encode: %d bytes, %d", len(s), e)
	}
	slices.Reverse(l)
	checkBothAsRef(t, l)
}

func TestDecodeOfEachByteAtEachPlace(t *testing.T) {
	for _, x := range allSamples() {
		at := digitsOf(x.s)
		for i := range len(x.s) {
			for b := range 256 {
				s := x.s[:i] + string([]byte{byte(b)}) + x.s[i+1:]
				checkDecodeAsRef(t, s)
				isDigit := b >= 'a' && b <= 'z' || b >= 'A' && b <= 'Z' || b >= '0' && b <= '9'
				if b > 127 || i >= at && b != '-' && !isDigit {
					checkNone(t, s)
				}
			}
		}
	}
}

func TestDecodeOfOneByte(t *testing.T) {
	for b := range 256 {
		s := string([]byte{byte(b)})
		switch b {
		case 'a', 'A':
			checkDecode(t, s, []rune{0x80}, api.OK)
		default:
			checkNone(t, s)
		}
		checkDecodeAsRef(t, s+"a")
		checkDecodeAsRef(t, s+"-")
		checkDecodeAsRef(t, "-"+s)
		checkDecodeAsRef(t, "a"+s)
	}
}

func TestDelimiterAheadOfAll(t *testing.T) {
	for _, s := range []string{"-", "-a", "-b", "-ba", "-kva", "-bcher", "-aaaa", "-A", "-0", "-99999999"} {
		checkNone(t, s)
	}
	checkDecode(t, "--", []rune("-"), api.OK)
	checkDecode(t, "-a-", []rune("-a"), api.OK)
	checkDecode(t, "---", []rune("--"), api.OK)
	checkDecode(t, "--a", []rune("\u0080-"), api.OK)
}

func TestDigitsThatEndTooSoon(t *testing.T) {
	for _, x := range allSamples() {
		for end := range len(x.s) {
			checkDecodeAsRef(t, x.s[:end])
		}
	}
	for _, s := range []string{"b", "z", "0", "9", "bb", "99", "bcher-k", "bcher-kv", "td", "t", "a-9", "a-99", "a-999", "a0", "aa9", "aaaa1"} {
		checkNone(t, s)
	}
	for n := 1; n <= 200; n++ {
		checkNone(t, strings.Repeat("9", n))
	}
}

// A number that goes round at any size would be the small one that it is more than by a power of two.
func TestNumbersFarBeyond(t *testing.T) {
	for _, l := range [][]rune{nil, []rune("bcher"), slices.Repeat([]rune{'-'}, 62)} {
		plain, _ := refEncode(l)
		for _, small := range []int64{0, 1, 124, 745, 0x10FF7F} {
			for bit := range 700 {
				far := plus(whole(small), new(big.Int).Lsh(whole(1), uint(bit)))
				checkFar(t, plain, far)
				checkFar(t, plain, times(far, whole(3)))
				checkFar(t, plain, plus(new(big.Int).Lsh(whole(1), uint(bit)), whole(-1)))
			}
		}
	}
}

func checkFar(t *testing.T, plain string, delta *big.Int) {
	t.Helper()
	s := plain + refNumber(delta, 72)
	if delta.Cmp(whole(0x110000*64)) >= 0 {
		checkNone(t, s)
		checkNone(t, s+"a")
	}
	if len(s) <= 200 {
		checkDecodeAsRef(t, s)
	}
}

// The same behind a first number, whose bias makes the digits weigh otherwise.
func TestNumbersFarBeyondLater(t *testing.T) {
	for _, l := range [][]rune{{0x80}, {0xFC}, {0x20AC}, {0x10FFFF}} {
		s, _ := refEncode(l)
		bias := refAdapt(whole(int64(l[0]-128)), 1, true)
		for bit := range 700 {
			for _, small := range []int64{-1, 0, 1, 5, 77} {
				far := plus(new(big.Int).Lsh(whole(1), uint(bit)), whole(small))
				if far.Sign() < 0 {
					continue
				}
				both := s + refNumber(far, bias)
				checkDecodeAsRef(t, both)
				if bit >= 23 {
					checkNone(t, both)
				}
			}
		}
	}
}

// Each number alone, of many digits, under each bias: it is what it is or, if it is more, tooMuch.
func TestCutNumber(t *testing.T) {
	rnd := rand.New(rand.NewSource(8))
	for range 20000 {
		bias := rnd.Intn(220)
		far := new(big.Int).Rand(rnd, new(big.Int).Lsh(whole(1), uint(1+rnd.Intn(640))))
		s := refNumber(far, bias)
		want := whole(tooMuch)
		if far.Cmp(want) < 0 {
			want = far
		}
		n, rest, ok := cutNumber(s+"a-!", int64(bias))
		if n != want.Int64() || rest != "a-!" || !ok {
			t.Errorf("%q, of bias %d: %d, %q, %t, not %d", s, bias, n, rest, ok, want)
		}
		if n, rest, ok := cutNumber(s[:len(s)-1], int64(bias)); n != 0 || rest != "" || ok {
			t.Errorf("%q, of bias %d, without its end: %d, %q, %t", s, bias, n, rest, ok)
		}
	}
}

// A last digit of nought weighs nothing, however great its weight.
func TestNoughtAtTheEnd(t *testing.T) {
	for size := range 63 {
		plain := strings.Repeat("x", size)
		if size > 0 {
			plain += "-"
		}
		for n := range 12 {
			for _, d := range []string{"b", "c", "z", "0", "9"} {
				checkDecodeAsRef(t, plain+strings.Repeat(d, n)+"a")
				checkDecodeAsRef(t, plain+"9"+strings.Repeat(d, n)+"a")
			}
		}
	}
}

func randomCode(rnd *rand.Rand) rune {
	switch rnd.Intn(6) {
	case 0:
		return rune(rnd.Intn(128))
	case 1:
		return rune('a' + rnd.Intn(26))
	case 2:
		return rune(128 + rnd.Intn(128))
	case 3:
		return rune(0x400 + rnd.Intn(0x100))
	case 4:
		return edgeCodePoints()[rnd.Intn(len(edgeCodePoints()))]
	}
	return rune(rnd.Intn(0x110000))
}

func TestManyLists(t *testing.T) {
	rnd := rand.New(rand.NewSource(5))
	for range 20000 {
		l := make([]rune, rnd.Intn(1+rnd.Intn(66)))
		one := randomCode(rnd)
		for i := range l {
			if l[i] = one; rnd.Intn(4) > 0 {
				l[i] = randomCode(rnd)
			}
		}
		checkBothAsRef(t, l)
	}
}

func TestManyTexts(t *testing.T) {
	const signs = "aaaaabcdefghijklmnopqrstuvwxyzABKZ0189--!\x00\x7F\x80\xFF"
	rnd := rand.New(rand.NewSource(6))
	for range 100000 {
		b := make([]byte, rnd.Intn(1+rnd.Intn(40)))
		few := 1 + rnd.Intn(len(signs))
		for i := range b {
			b[i] = signs[rnd.Intn(few)]
		}
		checkDecodeAsRef(t, string(b))
	}
}

// R3

func TestWhatIsHandedInStays(t *testing.T) {
	lists := [][]rune{slices.Repeat([]rune{0x10FFFF, 'a', 0xFC, '-'}, 15), slices.Repeat([]rune{'a'}, 64), {'b', 0xFC, 0xD800}, {0xFC, 'b', -1}}
	for _, x := range allSamples() {
		lists = append(lists, x.l)
	}
	for _, content := range lists {
		l, memory := withSpare(content)
		Encode(l)
		if _, before := withSpare(content); !slices.Equal(memory, before) {
			t.Errorf("Encode(%x) changed what it was handed: %x", content, memory)
		}
	}
}

func TestAnswersAreApart(t *testing.T) {
	for _, x := range allSamples() {
		l, memory := withSpare(x.l)
		s, _ := Encode(l)
		for i := range memory {
			memory[i] = 'z'
		}
		if s != x.s {
			t.Errorf("Encode(%x) kept what it was handed: %q", x.l, s)
		}
		one, _ := Decode(x.s)
		two, _ := Decode(x.s)
		one = one[:cap(one)]
		for i := range one {
			one[i] = 'y'
		}
		if !slices.Equal(two, x.l) {
			t.Errorf("Decode(%q) shares what it answers: %x", x.s, two)
		}
		checkDecode(t, x.s, x.l, api.OK)
	}
}

// What follows

func TestWhatIsEncodedIsDecoded(t *testing.T) {
	rnd := rand.New(rand.NewSource(7))
	for range 50000 {
		l := make([]rune, rnd.Intn(41))
		for i := range l {
			if l[i] = randomCode(rnd); !refIsCode(l[i]) {
				l[i] = 0xFFFD
			}
		}
		s, e := Encode(l)
		if e != api.OK {
			t.Fatalf("Encode(%x): %d", l, e)
		}
		if len(s) <= 200 {
			checkDecode(t, s, l, api.OK)
		}
	}
}

func FuzzBack(f *testing.F) {
	for _, x := range allSamples() {
		f.Add(x.s)
		f.Add(string(x.l))
	}
	f.Fuzz(func(t *testing.T, s string) {
		checkDecodeAsRef(t, s)
		checkBothAsRef(t, []rune(s))
	})
}
