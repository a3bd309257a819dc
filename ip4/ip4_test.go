package ip4

import (
	"math/big"
	"math/rand"
	"net/netip"
	"regexp"
	"strconv"
	"strings"
	"testing"
	"unsafe"

	"shortcut/api"
)

// The chapter's words a second time, in other means: patterns, and numbers without an end.

var (
	inTens     = regexp.MustCompile(`^(0|[1-9][0-9]*)$`)
	inEights   = regexp.MustCompile(`^0[0-7]+$`)
	inSixteens = regexp.MustCompile(`^0[xX][0-9a-fA-F]*$`)
	digitsOnly = regexp.MustCompile(`^[0-9]+$`)
)

// refParts: the parts of s, a last empty one left out if there is another one.
func refParts(s string) []string {
	parts := strings.Split(s, ".")
	if n := len(parts); n > 1 && parts[n-1] == "" {
		return parts[:n-1]
	}
	return parts
}

func refNumber(part string) *big.Int {
	digits, base := part, 10
	switch {
	case inSixteens.MatchString(part):
		digits, base = "0"+part[2:], 16
	case inEights.MatchString(part):
		base = 8
	case !inTens.MatchString(part):
		return nil
	}
	n, ok := new(big.Int).SetString(digits, base)
	if !ok {
		panic("a pattern of the reference is wrong: " + part)
	}
	return n
}

func refEnds(s string) bool {
	parts := refParts(s)
	last := parts[len(parts)-1]
	return digitsOnly.MatchString(last) || inSixteens.MatchString(last)
}

// power tells 256^n.
func power(n int) *big.Int {
	return new(big.Int).Exp(big.NewInt(256), big.NewInt(int64(n)), nil)
}

func refParse(s string) (uint32, api.Errno) {
	parts := refParts(s)
	if len(parts) > 4 {
		return 0, api.ErrHost
	}
	sum := new(big.Int)
	for place, part := range parts {
		n, below, times := refNumber(part), big.NewInt(256), power(3-place)
		if place == len(parts)-1 {
			below, times = power(5-len(parts)), big.NewInt(1)
		}
		if n == nil || n.Cmp(below) >= 0 {
			return 0, api.ErrHost
		}
		sum.Add(sum, n.Mul(n, times))
	}
	if !sum.IsUint64() || sum.Uint64() > 1<<32-1 {
		panic("the reference is wrong: " + s)
	}
	return uint32(sum.Uint64()), api.OK
}

func refShow(a uint32) string {
	return netip.AddrFrom4([4]byte{byte(a >> 24), byte(a >> 16), byte(a >> 8), byte(a)}).String()
}

// checkAddress holds Parse of s, and of s with a full stop behind it, against want; and what was told against what it is shown as.
func checkAddress(t *testing.T, s string, want uint32) {
	t.Helper()
	for _, x := range []string{s, strings.TrimSuffix(s, ".") + "."} {
		if a, e := Parse(x); a != want || e != api.OK {
			t.Errorf("Parse(%q): %#x, %d, not %#x", x, a, e, want)
		}
		if !Ends(x) {
			t.Errorf("Ends(%q): no, and it is an address", x)
		}
	}
	checkBack(t, want)
}

func checkNone(t *testing.T, s string) {
	t.Helper()
	if a, e := Parse(s); a != 0 || e != api.ErrHost {
		t.Errorf("Parse(%q): %#x, %d, not ErrHost", s, a, e)
	}
}

func checkEnds(t *testing.T, s string, want bool) {
	t.Helper()
	if Ends(s) != want {
		t.Errorf("Ends(%q): %t", s, !want)
	}
}

// checkBack holds Show of a against the reference, and what is shown against a.
func checkBack(t *testing.T, a uint32) {
	t.Helper()
	s := Show(a)
	if s != refShow(a) {
		t.Errorf("Show(%#x): %q, not %q", a, s, refShow(a))
	}
	if b, e := Parse(s); b != a || e != api.OK {
		t.Errorf("Parse(%q), which is what %#x is shown as: %#x, %d", s, a, b, e)
	}
	if !Ends(s) {
		t.Errorf("Ends(%q): no, and it is what %#x is shown as", s, a)
	}
}

// checkAny holds Ends and Parse of s against the reference.
func checkAny(t *testing.T, s string) {
	t.Helper()
	checkEnds(t, s, refEnds(s))
	want, wantErr := refParse(s)
	a, e := Parse(s)
	if a != want || e != wantErr {
		t.Errorf("Parse(%q): %#x, %d, not %#x, %d", s, a, e, want, wantErr)
	}
	if e == api.OK {
		checkBack(t, a)
	}
}

// P7.1: Ends

func TestEnds(t *testing.T) {
	for _, s := range []string{
		"0", "1", "9", "00", "08", "09", "0123456789", "255", "256", "127.0.0.1", "127.0.0.1.",
		"0x", "0X", "0x0", "0Xf", "0x0123456789abcdefABCDEF", "0x.", "0X.", "a.0x", "a.0X.", "a.0x1f.", "a.0X1F",
		"a.1", "a.1.", "a.08", "a.09.", "example.com.0", "-1.1", "..1", "..1.", ".0", ".0x", "a..0X",
		"1.2.3.4.5", "1.2.3.4.5.6.7.8.9.", "4294967296", "1.2.3.256", "0x100000000", "08.09", "0xg.1", " .1", "\x00.1",
		"é.1", "\xff.7.",
	} {
		checkEnds(t, s, true)
	}
	for _, s := range []string{
		"", ".", "..", "...", "a", "a.", "a..", "1..", "1...", "0x..", "1.a", "1.a.", "a.1a", "a.1a.", "1.2.3.a4",
		"0xg", "0x1g", "0xg.", "a.0xg", "0x-1", "0x+1", "0x ", "0x1 ", "0x0x1", "0xx", "00x1", "00x", "1x", "x", "X", "0b1", "0o7", "1_0", "0x_1",
		"f", "ff", "1f", "0f", "1e3", "x1", "1x1", "x.x1",
		"-1", "+1", "a.-1", "a.+1", "1-", " 1", "1 ", "\t1", "1\n", "1\x00", "１", "a.１", "٣", "²", "1\xff", "\xff", "1,2", "1:2", "1/",
		"1.2.3.4 ", "1.2.3.-4", "1.2.3..",
	} {
		checkEnds(t, s, false)
	}
}

func TestEndsOfNoAddress(t *testing.T) {
	for _, s := range []string{
		"08", "09", "a.08", "256.1", "1.2.3.256", "1.2.3.4.5", "1.2.65536", "1.16777216", "4294967296",
		"0x100000000", "040000000000", "a.1", "1..2", ".1", "..1", "-1.1", "x.0x", "1.2.3.08", strings.Repeat("9", 500), "0x" + strings.Repeat("f", 500),
	} {
		for _, x := range []string{s, s + "."} {
			checkEnds(t, x, true)
			checkNone(t, x)
		}
	}
}

func TestEndsOfEachByte(t *testing.T) {
	for b := range 256 {
		x := string([]byte{byte(b)})
		isTen := b >= '0' && b <= '9'
		isSixteen := isTen || b >= 'a' && b <= 'f' || b >= 'A' && b <= 'F'
		checkEnds(t, x, isTen)
		checkEnds(t, "a."+x, isTen)
		checkEnds(t, "a."+x+".", isTen)
		checkEnds(t, "1"+x, isTen || x == ".")
		checkEnds(t, x+"1", isTen || x == ".")
		checkEnds(t, "0"+x, isTen || x == "." || x == "x" || x == "X")
		checkEnds(t, "0x"+x, isSixteen || x == ".")
		checkEnds(t, "0X1"+x+"2", isSixteen || x == ".")
		checkEnds(t, x+".1", true)
	}
}

// P7.2: Parse

func TestExample(t *testing.T) {
	checkAddress(t, "0x7f.1", 127<<24|1)
	if a, _ := Parse("0x7f.1"); Show(a) != "127.0.0.1" {
		t.Errorf("Show: %q", Show(a))
	}
}

func TestOrdinaryAddresses(t *testing.T) {
	for s, want := range map[string]uint32{
		"0.0.0.0":             0,
		"1.2.3.4":             0x01020304,
		"4.3.2.1":             0x04030201,
		"10.0.0.255":          0x0A0000FF,
		"127.0.0.1":           0x7F000001,
		"192.168.1.20":        0xC0A80114,
		"255.255.255.255":     0xFFFFFFFF,
		"1.2.3":               0x01020003,
		"1.2":                 0x01000002,
		"1":                   0x00000001,
		"192.168.257":         0xC0A80101,
		"10.1":                0x0A000001,
		"2130706433":          0x7F000001,
		"0x7f000001":          0x7F000001,
		"0X7F000001":          0x7F000001,
		"017700000001":        0x7F000001,
		"0x7F.0.0.1":          0x7F000001,
		"0177.0.0.01":         0x7F000001,
		"0xc0.0250.1.20":      0xC0A80114,
		"0xDE.0xad.0xBe.0XeF": 0xDEADBEEF,
		"0xdeadbeef":          0xDEADBEEF,
		"0XDeAdBeEf":          0xDEADBEEF,
		"10.010.0x10.16":      0x0A081010,
	} {
		checkAddress(t, s, want)
	}
}

func TestFullStops(t *testing.T) {
	for s, want := range map[string]uint32{"1.": 1, "1.2.": 0x01000002, "1.2.3.": 0x01020003, "1.2.3.4.": 0x01020304, "0x.": 0} {
		checkAddress(t, s, want)
	}
	for _, s := range []string{
		"", ".", "..", "...", "....", ".....", strings.Repeat(".", 100),
		".1", ".1.", "..1", ".1.2.3.4", ".1.2.3", ".1.2.3.",
		"1..", "1...", "1.2..", "1.2.3..", "1.2.3.4..", "1.2.3.4...",
		"1..2", "1..2.", "1...2", "1..2.3", "1.2..3", "1.2..3.", "1.2.3..4", "0x..0x",
	} {
		checkNone(t, s)
	}
}

func TestHowManyParts(t *testing.T) {
	for n, want := range map[int]uint32{1: 7, 2: 0x07000007, 3: 0x07070007, 4: 0x07070707} {
		checkAddress(t, strings.Repeat("7.", n-1)+"7", want)
	}
	for n := 5; n <= 300; n++ {
		checkNone(t, strings.Repeat("7.", n-1)+"7")
		checkNone(t, strings.Repeat("7.", n))
		checkNone(t, strings.Repeat("0.", n-1)+"0")
		checkNone(t, strings.Repeat("0x.", n))
	}
}

// TestNoughts: 0, 0x and 0X alone, and noughts ahead of a number.
func TestNoughts(t *testing.T) {
	for _, s := range []string{"0", "00", "000", "0x", "0X", "0x0", "0X0", "0x00", "0.0", "0x.0X", "0x.0X.0", "00.0.0x.0X", "0x.0x.0x.0x", "0.0x.00.0x0"} {
		checkAddress(t, s, 0)
	}
	for _, n := range []int{1, 2, 9, 10, 11, 31, 32, 33, 100, 1000} {
		noughts := strings.Repeat("0", n)
		checkAddress(t, noughts, 0)
		checkAddress(t, noughts+"17", 15)
		checkAddress(t, noughts+"37777777777", 0xFFFFFFFF)
		checkAddress(t, "0x"+noughts, 0)
		checkAddress(t, "0x"+noughts+"1f", 31)
		checkAddress(t, "0X"+noughts+"FFFFFFFF", 0xFFFFFFFF)
		checkAddress(t, noughts+"377.0x"+noughts+"ff."+noughts+"377.0x"+noughts+"ff", 0xFFFFFFFF)
		checkNone(t, noughts+"400.0")
		checkNone(t, noughts+"8")
		checkNone(t, "0x"+noughts+"g")
	}
}

// TestEights: 8 and 9 are digits, and none in eights.
func TestEights(t *testing.T) {
	for s, want := range map[string]uint32{"01": 1, "07": 7, "010": 8, "0377.1": 0xFF000001, "012.013.014.015": 0x0A0B0C0D, "1.2.3.0377": 0x010203FF, "0177777.": 65535} {
		checkAddress(t, s, want)
	}
	for _, s := range []string{"08", "09", "08.", "09.", "008", "018", "0108", "0190", "08.0.0.0", "0.09.0.0", "0.0.08.0", "0.0.0.09", "1.08", "09.1", "0a", "0f", "0-1", "0 7", "07 ", "0400.1"} {
		checkNone(t, s)
	}
	for n := range uint32(512) {
		s := "0" + strconv.FormatUint(uint64(n), 8)
		checkAddress(t, s, n)
		if n <= 255 {
			checkAddress(t, s+".0", n<<24)
		} else {
			checkNone(t, s+".0")
		}
	}
}

func TestLettersLargeAndSmall(t *testing.T) {
	for n := range uint32(512) {
		small := strconv.FormatUint(uint64(n), 16)
		for _, s := range []string{"0x" + small, "0X" + small, "0x" + strings.ToUpper(small), "0X" + strings.ToUpper(small), "0x0" + small} {
			checkAddress(t, s, n)
			if n <= 255 {
				checkAddress(t, "1."+s+".3.4", 0x01000304|n<<16)
			} else {
				checkNone(t, "1."+s+".3.4")
			}
		}
	}
	for _, s := range []string{"0xg", "0xG", "0x1g", "0xg1", "0x`", "0x@", "0x/", "0x:", "0x-", "0x-1", "0x+1", "0x 1", "0x0x1", "0xx1", "x", "x1", "X1", "1x1", "00x1", "1.0xg", "0xg.1", "a", "f", "A", "ff", "1f", "f1", "1.2.3.f"} {
		checkNone(t, s)
	}
}

func TestSignsThatAreNoDigits(t *testing.T) {
	for _, s := range []string{
		"-1", "+1", "-0", "+0", "1-", "1+", "--1", "-1.2.3.4", "1.-2.3.4", "1.2.+3.4", "1.2.3.-4", "1.2.3.+4", "-0x1", "+0x1", "-010", "−1",
		" ", " 1", "1 ", "1. 2", "1 .2", "\t1", "1\n", "1\r", "1.2.3.4 ", " 1.2.3.4",
		"1e3", "1_000", "1,000", "0b1", "0o7", "0_7", "0x_1", "1.2.3.4/8", "1.2.3.4:80", "1:2", "%31", "1.2.3.%34",
		"a", "a.b", "example.com", "1.2.3.a", "a.2.3.4", "1.2.3.4a", "\x00", "1\x00", "\x001", "1.2.3.4\x00",
		"１", "１.２.３.４", "1。2", "1．2", "٣", "²", "\xff", "1\xff", "\xff1", "1.2.3.\xb1",
	} {
		checkNone(t, s)
	}
	for b := range 256 {
		x := string([]byte{byte(b)})
		for _, s := range []string{x, x + "1", "1" + x, "1" + x + "2", "0" + x, "0" + x + "1", "0x" + x, "0x1" + x, "1." + x, x + ".1", "1." + x + ".3.4", "1.2.3." + x, "1.2.3.0x" + x, "1.2.3.4" + x, x + "1.2.3.4", "1.2.3.4." + x} {
			checkAny(t, s)
		}
	}
}

// inEachBase tells n as a part in tens, in eights and in sixteens.
func inEachBase(n uint64) []string {
	sixteens := strconv.FormatUint(n, 16)
	return []string{strconv.FormatUint(n, 10), "0" + strconv.FormatUint(n, 8), "0x" + sixteens, "0X" + strings.ToUpper(sixteens), "000" + strconv.FormatUint(n, 8), "0x000" + sixteens}
}

// TestPartsButTheLast: 255 and 256, at each place.
func TestPartsButTheLast(t *testing.T) {
	for howMany := 2; howMany <= 4; howMany++ {
		for place := range howMany - 1 {
			for n := uint64(250); n <= 260; n++ {
				for _, part := range inEachBase(n) {
					parts := strings.Split(strings.Repeat("0.", howMany-1)+"0", ".")
					parts[place] = part
					s := strings.Join(parts, ".")
					if n <= 255 {
						checkAddress(t, s, uint32(n)<<(24-8*place))
					} else {
						checkNone(t, s)
						checkNone(t, s+".")
					}
				}
			}
		}
	}
	for _, s := range []string{"256.0", "0.256.0", "0.0.256.0", "65536.0", "4294967296.0", "4294967297.0", "4294967295.1", "18446744073709551616.0", "0x100000001.0.0.1", "0.040000000001.1", "0.0.18446744073709551617.1"} {
		checkNone(t, s)
	}
}

// TestTheLastOne: its greatest number, and one more, for one part to four.
func TestTheLastOne(t *testing.T) {
	for howMany, most := range map[int]uint64{1: 0xFFFFFFFF, 2: 0xFFFFFF, 3: 0xFFFF, 4: 0xFF} {
		for _, ahead := range []string{"0", "1", "255", "0xff", "0377"} {
			front := strings.Repeat(ahead+".", howMany-1)
			base, e := refParse(front + "0")
			if e != api.OK {
				t.Fatalf("%q is no address", front+"0")
			}
			for _, n := range []uint64{0, 1, 254, 255, most/256 + 1, most - 1, most} {
				if n > most {
					continue
				}
				for _, part := range inEachBase(n) {
					checkAddress(t, front+part, base+uint32(n))
				}
			}
			for _, n := range []uint64{most + 1, most + 2, most*2 + 1, most*2 + 2, most*10 + 9, most*256 + 255, (most + 1) * 256, 1 << 32, 1<<32 + 1, 1<<33 - 1, 1 << 40, 1<<63 - 1, 1 << 63, 1<<64 - 1} {
				for _, part := range inEachBase(n) {
					checkNone(t, front+part)
					checkNone(t, front+part+".")
				}
			}
		}
	}
}

// TestVeryManyDigits: numbers far beyond 64 bits, those among them that would wrap round to a small one.
func TestVeryManyDigits(t *testing.T) {
	for _, bits := range []uint{32, 33, 40, 63, 64, 65, 96, 127, 128, 129, 256, 1000, 5000} {
		for _, more := range []int64{-1, 0, 1, 7, 127} {
			n := new(big.Int).Lsh(big.NewInt(1), bits)
			n.Add(n, big.NewInt(more))
			if bits == 32 && more < 0 {
				continue
			}
			for _, part := range []string{n.Text(10), "0" + n.Text(8), "0x" + n.Text(16), "0X" + strings.ToUpper(n.Text(16))} {
				checkNone(t, part)
				checkNone(t, part+".")
				checkNone(t, "1."+part)
				checkNone(t, "1.2."+part)
				checkNone(t, "1.2.3."+part)
				checkNone(t, part+".1")
				checkNone(t, "1."+part+".1.1")
				checkEnds(t, part, true)
				checkEnds(t, "a."+part+".", true)
			}
		}
	}
	for size := 11; size < 200; size++ {
		for d := '1'; d <= '9'; d++ {
			checkNone(t, strings.Repeat(string(d), size))
			checkNone(t, string(d)+strings.Repeat("0", size))
			checkNone(t, "0x"+string(d)+strings.Repeat("0", size))
			checkNone(t, "0"+string(d)+strings.Repeat("0", size))
		}
	}
}

func TestAVeryLongText(t *testing.T) {
	const size = 1 << 22
	for s, ends := range map[string]bool{
		strings.Repeat("9", size):         true,
		"0x" + strings.Repeat("f", size):  true,
		strings.Repeat(".", size):         false,
		strings.Repeat("1.", size):        true,
		strings.Repeat("a", size):         false,
		strings.Repeat("a", size) + ".0x": true,
	} {
		checkNone(t, s)
		if Ends(s) != ends {
			t.Errorf("Ends of %q and more: %t", s[:10], !ends)
		}
	}
	checkAddress(t, strings.Repeat("0", size), 0)
	checkAddress(t, "0x"+strings.Repeat("0", size)+"1", 1)
}

// P7.2: Show

func TestShow(t *testing.T) {
	for a, want := range map[uint32]string{
		0:          "0.0.0.0",
		1:          "0.0.0.1",
		9:          "0.0.0.9",
		10:         "0.0.0.10",
		99:         "0.0.0.99",
		100:        "0.0.0.100",
		127:        "0.0.0.127",
		128:        "0.0.0.128",
		255:        "0.0.0.255",
		256:        "0.0.1.0",
		0xFF00:     "0.0.255.0",
		0xFFFF:     "0.0.255.255",
		0x10000:    "0.1.0.0",
		0xFF0000:   "0.255.0.0",
		0xFFFFFF:   "0.255.255.255",
		0x1000000:  "1.0.0.0",
		0x7F000001: "127.0.0.1",
		0x7FFFFFFF: "127.255.255.255",
		0x80000000: "128.0.0.0",
		0xFF000000: "255.0.0.0",
		0x01020304: "1.2.3.4",
		0xC0A80114: "192.168.1.20",
		0xFFFFFFFE: "255.255.255.254",
		0xFFFFFFFF: "255.255.255.255",
	} {
		if s := Show(a); s != want {
			t.Errorf("Show(%#x): %q, not %q", a, s, want)
		}
	}
}

// What follows: what is shown is parsed.

func TestShownIsParsed(t *testing.T) {
	for place := range 4 {
		for n := range uint32(256) {
			for _, others := range []uint32{0, 0x01010101, 0x7F808180, 0xFFFFFFFF} {
				checkBack(t, others&^(255<<(8*place))|n<<(8*place))
			}
		}
	}
	for bit := range 32 {
		checkBack(t, 1<<bit)
		checkBack(t, 1<<bit-1)
		checkBack(t, ^uint32(1<<bit))
	}
	r := rand.New(rand.NewSource(7))
	for range 100000 {
		checkBack(t, r.Uint32())
	}
}

// R3: what is told is new memory, what is handed in stays.

func TestShownIsNew(t *testing.T) {
	first, second := Show(0x01020304), Show(0x01020304)
	if first != second || unsafe.StringData(first) == unsafe.StringData(second) {
		t.Errorf("Show tells %q and %q of one memory", first, second)
	}
}

func TestHandedInStays(t *testing.T) {
	for _, s := range []string{"0x7f.1", "1.2.3.4.", "1.2.3.256", "..", "08", "0XFF.0xAb"} {
		memory := []byte(s + "spare")
		handed := unsafe.String(&memory[0], len(s))
		firstEnds := Ends(handed)
		a, e := Parse(handed)
		if string(memory) != s+"spare" {
			t.Errorf("%q is %q behind the calls", s+"spare", memory)
		}
		if again, f := Parse(s); again != a || f != e || Ends(s) != firstEnds {
			t.Errorf("%q: another answer the second time", s)
		}
	}
}

// R1, R2, R4: any text at all.

func randomText(r *rand.Rand) string {
	const signs = "..........000000011223456789xxXXabcdefABCDEFg-+ "
	b := make([]byte, r.Intn(20))
	for i := range b {
		b[i] = signs[r.Intn(len(signs))]
		if r.Intn(50) == 0 {
			b[i] = byte(r.Intn(256))
		}
	}
	return string(b)
}

// randomParts tells a text that is nearly an address: numbers near the edges, in each base.
func randomParts(r *rand.Rand) string {
	edges := []uint64{0, 1, 7, 8, 9, 127, 255, 256, 65535, 65536, 1<<24 - 1, 1 << 24, 1<<32 - 1, 1 << 32, 1<<64 - 1}
	var parts []string
	for range 1 + r.Intn(5) {
		n := edges[r.Intn(7+r.Intn(len(edges)-6))]
		each := inEachBase(n)
		parts = append(parts, each[r.Intn(len(each))])
	}
	return strings.Join(parts, ".") + []string{"", "", ".", ".."}[r.Intn(4)]
}

func TestOfAnyText(t *testing.T) {
	r := rand.New(rand.NewSource(4))
	for range 200000 {
		checkAny(t, randomText(r))
		checkAny(t, randomParts(r))
	}
}

// TestOfAllShortTexts: all texts of at most five of these signs.
func TestOfAllShortTexts(t *testing.T) {
	const signs, most = ".0189xXaG", 5
	var all func(s string)
	all = func(s string) {
		checkAny(t, s)
		if len(s) == most {
			return
		}
		for i := range len(signs) {
			all(s + signs[i:i+1])
		}
	}
	all("")
}

func FuzzParse(f *testing.F) {
	for _, s := range []string{"", ".", "0x7f.1", "1.2.3.4.", "037777777777", "1.16777216", "a.08", "0XfF.0x.00.9"} {
		f.Add(s)
	}
	f.Fuzz(checkAny)
}
