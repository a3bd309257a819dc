package ip6

import (
	"math/rand"
	"strconv"
	"strings"
	"testing"
	"unsafe"

	"shortcut/api"
)

func checkAddress(t *testing.T, s string, want [8]uint16) {
	t.Helper()
	if a, e := Parse(s); a != want || e != api.OK {
		t.Errorf("Parse(%q): %x, %d, not %x", s, a, e, want)
	}
	checkBack(t, want)
}

func checkNone(t *testing.T, s string) {
	t.Helper()
	if a, e := Parse(s); a != [8]uint16{} || e != api.ErrHost {
		t.Errorf("Parse(%q): %x, %d, not ErrHost", s, a, e)
	}
}

// checkBack holds Show of a against the references, and what is shown against a.
func checkBack(t *testing.T, a [8]uint16) {
	t.Helper()
	s := Show(a)
	if want := refShow(a); s != want {
		t.Errorf("Show(%x): %q, not %q", a, s, want)
	}
	if want, ok := libShow(a); ok && s != want {
		t.Errorf("Show(%x): %q, and the library shows %q", a, s, want)
	}
	if b, e := Parse(s); b != a || e != api.OK {
		t.Errorf("Parse(%q), which is what %x is shown as: %x, %d", s, a, b, e)
	}
	if up := strings.ToUpper(s); up != s {
		if b, e := Parse(up); b != a || e != api.OK {
			t.Errorf("Parse(%q): %x, %d, not %x", up, b, e, a)
		}
	}
}

func checkShow(t *testing.T, want string, a [8]uint16) {
	t.Helper()
	if s := Show(a); s != want {
		t.Errorf("Show(%x): %q, not %q", a, s, want)
	}
	checkBack(t, a)
}

// checkAny holds Parse of s against the references.
func checkAny(t *testing.T, s string) {
	t.Helper()
	want, wantErr := refParse(s)
	if lib, libErr := libParse(s); lib != want || libErr != wantErr {
		t.Errorf("the references tell %q apart: %x, %d; %x, %d", s, want, wantErr, lib, libErr)
	}
	a, e := Parse(s)
	if a != want || e != wantErr {
		t.Errorf("Parse(%q): %x, %d, not %x, %d", s, a, e, want, wantErr)
	}
	if e == api.OK {
		checkBack(t, a)
	}
}

// P8.1: Parse

func TestExample(t *testing.T) {
	checkAddress(t, "::1", [8]uint16{7: 1})
	checkShow(t, "::1", [8]uint16{7: 1})
	a, _ := Parse("::1")
	if s := Show(a); s != "::1" {
		t.Errorf("Show: %q", s)
	}
}

func TestOrdinaryAddresses(t *testing.T) {
	for s, want := range map[string][8]uint16{
		"::":                      {},
		"1:2:3:4:5:6:7:8":         {1, 2, 3, 4, 5, 6, 7, 8},
		"0:0:0:0:0:0:0:0":         {},
		"0:0:0:0:0:0:0:1":         {7: 1},
		"2001:db8::1":             {0: 0x2001, 1: 0xdb8, 7: 1},
		"2001:0DB8:0::0001":       {0: 0x2001, 1: 0xdb8, 7: 1},
		"fe80::1ff:fe23:4567:890": {0xfe80, 0, 0, 0, 0x1ff, 0xfe23, 0x4567, 0x890},
		"FFFF:ffff:FfFf:fFfF:ffff:ffff:ffff:ffff": {0xffff, 0xffff, 0xffff, 0xffff, 0xffff, 0xffff, 0xffff, 0xffff},
		"::ffff:192.168.1.20":                     {5: 0xffff, 6: 0xc0a8, 7: 0x0114},
		"64:ff9b::10.0.0.255":                     {0: 0x64, 1: 0xff9b, 6: 0x0a00, 7: 0x00ff},
		"1:2:3:4:5:6:7.8.9.10":                    {1, 2, 3, 4, 5, 6, 0x0708, 0x090a},
		"::0.0.0.0":                               {},
		"::255.255.255.255":                       {6: 0xffff, 7: 0xffff},
		"ff02::2":                                 {0: 0xff02, 7: 2},
		"dead:beef::":                             {0xdead, 0xbeef},
		"1:0:0:2::3":                              {0: 1, 3: 2, 7: 3},
	} {
		checkAddress(t, s, want)
	}
}

func TestNoText(t *testing.T) {
	checkNone(t, "")
	for _, s := range []string{" ", ":", ".", "0", "\x00", "::\x00", " ::", ":: "} {
		checkNone(t, s)
	}
}

// TestHowManyPieces: without :: eight pieces, no more and no fewer.
func TestHowManyPieces(t *testing.T) {
	for n := 1; n <= 20; n++ {
		var want [8]uint16
		var pieces []string
		for i := range n {
			pieces = append(pieces, strconv.FormatUint(uint64(i+1), 16))
			if n == 8 {
				want[i] = uint16(i + 1)
			}
		}
		s := strings.Join(pieces, ":")
		if n == 8 {
			checkAddress(t, s, want)
		} else {
			checkNone(t, s)
		}
		checkNone(t, s+":")
		checkNone(t, ":"+s)
		checkNone(t, ":"+s+":")
		checkNone(t, strings.Repeat("0:", n))
		if n != 8 {
			checkNone(t, strings.Repeat("0:", n-1)+"0")
		}
	}
	checkNone(t, strings.Repeat("1:", 100000)+"1")
	checkNone(t, strings.Repeat("1:", 100000)+":1")
	checkNone(t, "::"+strings.Repeat("1:", 100000)+"1")
}

// inAll puts piece at place among the pieces 1 to 8.
func inAll(place int, piece string) string {
	pieces := strings.Split("1:2:3:4:5:6:7:8", ":")
	pieces[place] = piece
	return strings.Join(pieces, ":")
}

// TestDigitsOfAPiece: none, one to four, and more of them, in large and small letters, with noughts ahead, at each place.
func TestDigitsOfAPiece(t *testing.T) {
	for piece, n := range map[string]uint16{
		"0": 0, "1": 1, "9": 9, "a": 10, "A": 10, "f": 15, "F": 15, "00": 0, "000": 0, "0000": 0, "01": 1, "001": 1, "0001": 1, "0f": 15, "00F": 15, "000f": 15,
		"10": 16, "ff": 255, "FF": 255, "fF": 255, "0fF": 255, "00Ff": 255, "100": 256, "0100": 256, "fff": 4095, "0FfF": 4095, "1000": 4096,
		"ffff": 65535, "FFFF": 65535, "fFfF": 65535, "abcd": 0xabcd, "ABCD": 0xabcd, "AbCd": 0xabcd, "EFef": 0xefef, "7fff": 0x7fff, "8000": 0x8000, "9999": 0x9999, "0123": 0x123, "0b1": 0xb1, "4567": 0x4567, "89aB": 0x89ab,
	} {
		for place := range 8 {
			want := [8]uint16{1, 2, 3, 4, 5, 6, 7, 8}
			want[place] = n
			checkAddress(t, inAll(place, piece), want)
		}
		checkAddress(t, "::"+piece, [8]uint16{7: n})
		checkAddress(t, piece+"::", [8]uint16{0: n})
		checkAddress(t, piece+"::"+piece, [8]uint16{0: n, 7: n})
	}
	for _, piece := range []string{
		"00000", "00001", "0ffff", "fffff", "10000", "12345", "000000", "0000000001", strings.Repeat("0", 100), strings.Repeat("f", 100), "0" + strings.Repeat("0", 1000) + "1",
		"18446744073709551616", "10000000000000001",
	} {
		for place := range 8 {
			checkNone(t, inAll(place, piece))
		}
		checkNone(t, "::"+piece)
		checkNone(t, piece+"::")
		checkNone(t, piece)
	}
	for place := range 8 {
		if s := inAll(place, ""); place == 0 || place == 7 {
			checkNone(t, s) // one colon ahead of all, or behind
		} else {
			want := [8]uint16{1, 2, 3, 4, 5, 6, 7, 8}
			want[place] = 0
			checkAddress(t, s, want)
		}
	}
}

func TestSignsThatAreNoDigits(t *testing.T) {
	for _, piece := range []string{
		"g", "G", "z", "-1", "+1", "-", "+", "-0", "+0", "1-", "0x1", "0X1", "0x", "x", "x1", "0o7", "1_0", "_1", "1_", "1h", "h1", " 1", "1 ", " ", "\t", "1\n", "\r1", "1.", ".1", ".", "1.2",
		"1,2", "1;2", "1/2", "@", "`", "/", "%", "%31", "1%", "1%25a", "[1", "1]", "[", "]", "\x00", "1\x00", "\x001", "\xff", "1\xff", "１", "٣", "²", "é", "а", "1：2", "：", "∶",
	} {
		for place := range 8 {
			checkNone(t, inAll(place, piece))
		}
		checkNone(t, "::"+piece)
		checkNone(t, piece+"::")
		checkNone(t, "1::"+piece+":2")
		checkNone(t, "1:"+piece+"::2")
		checkNone(t, piece)
	}
	for b := range 256 {
		x := string([]byte{byte(b)})
		for _, s := range []string{
			x, "::" + x, x + "::", ":" + x + ":", "1" + x + "::", "::1" + x, "::" + x + "1", "::1" + x + "2", "1::2" + x + "3::4", x + "::1", "::1:" + x, "1:2:3:4:5:6:7:" + x, x + ":2:3:4:5:6:7:8", "1:2:3:4" + x + "5:6:7:8",
			"1:2:3:4:5:6:7:8" + x, x + "1:2:3:4:5:6:7:8", "::1.2.3.4" + x, "::" + x + "1.2.3.4", "::1.2" + x + "3.4", "::1.2." + x + ".4", "::1.2.3." + x, "::" + x + ".2.3.4", "::1" + x + ".2.3.4", "::2" + x + "5.2.3.4",
		} {
			checkAny(t, s)
		}
	}
}

// TestOneGap: :: at each place, for each number of missing pieces, none of them too, which it may not stand for.
func TestOneGap(t *testing.T) {
	for front := range 12 {
		for back := range 12 {
			var want [8]uint16
			var ahead, behind []string
			for i := range front {
				ahead = append(ahead, strconv.FormatUint(uint64(i+1), 16))
			}
			for i := range back {
				behind = append(behind, strconv.FormatUint(uint64(i+100), 16))
			}
			s := strings.Join(ahead, ":") + "::" + strings.Join(behind, ":")
			if front+back > 7 {
				checkNone(t, s)
				continue
			}
			for i := range front {
				want[i] = uint16(i + 1)
			}
			for i := range back {
				want[8-back+i] = uint16(i + 100)
			}
			checkAddress(t, s, want)
			checkNone(t, ":"+s)
			checkNone(t, s+":")
			checkNone(t, s+"::")
			checkNone(t, "::"+s)
			checkNone(t, s+" ")
		}
	}
	for _, s := range []string{"1:2:3:4:5:6:7:8::", "::1:2:3:4:5:6:7:8", "1::2:3:4:5:6:7:8", "1:2:3:4::5:6:7:8", "1:2:3:4:5:6:7::8", "0:0:0:0:0:0:0:0::", "::0:0:0:0:0:0:0:0"} {
		checkNone(t, s)
	}
}

func TestColons(t *testing.T) {
	for n := 1; n <= 40; n++ {
		if n != 2 {
			colons := strings.Repeat(":", n)
			checkNone(t, colons)
			if n > 2 {
				for _, s := range []string{colons + "1", "1" + colons, "1" + colons + "2", "1:2" + colons + "3:4", colons + "1.2.3.4", "1:2:3" + colons + "5:6:7:8"} {
					checkNone(t, s)
				}
			}
		}
	}
	for _, s := range []string{
		"1::2::3", "::1::", "1::::2", "::::", "1::2::", "::1::2", "::2::3::", "1:2::3:4::5", "::1::1.2.3.4", "0::0::0", "::0::", "1::2:::3", "1:::2::3",
		":1", "1:", ":1::", "::1:", ":1::2", "1::2:", ":::1", "1:::", ":1:2:3:4:5:6:7:8", "1:2:3:4:5:6:7:8:", ":2:3:4:5:6:7:8", "1:2:3:4:5:6:7:", ":1:2:3:4:5:6:7", ":1.2.3.4", "1.2.3.4:", "::1.2.3.4:", ": ::1", ":1:",
		"1:2:3:4:5:6:7:::", ":::2:3:4:5:6:7:8", "1:2:3:4:5:6::7:", ":1:2:3:4:5:6::",
	} {
		checkNone(t, s)
	}
}

// TestInTens: four numbers in tens as the last two pieces, behind each number of pieces, with and without ::.
func TestInTens(t *testing.T) {
	const numbers = "1.2.3.4"
	for front := range 10 {
		pieces := strings.Repeat("a:", front)
		want := [8]uint16{6: 0x0102, 7: 0x0304}
		if front == 6 {
			for i := range front {
				want[i] = 10
			}
			checkAddress(t, pieces+numbers, want)
		} else {
			checkNone(t, pieces+numbers)
		}
		for back := range 10 {
			ahead := strings.TrimSuffix(pieces, ":")
			s := ahead + "::" + strings.Repeat("b:", back) + numbers
			if front+back > 5 {
				checkNone(t, s)
				continue
			}
			want := [8]uint16{6: 0x0102, 7: 0x0304}
			for i := range front {
				want[i] = 10
			}
			for i := range back {
				want[5-i] = 11
			}
			checkAddress(t, s, want)
		}
	}
	for _, s := range []string{
		"1.2.3.4", "1.2.3.4::", "1.2.3.4::1", "::1.2.3.4:5", "::1.2.3.4:5:6", "1.2.3.4:5:6:7:8:9:a", "1:1.2.3.4:4:5:6:7:8", "1:2:3:4:5:1.2.3.4:8", "::1.2.3.4::", "1:2:1.2.3.4::", "::1.2.3.4:1.2.3.4", "1.2.3.4:1.2.3.4:1.2.3.4:1.2.3.4", "1.2.3.4::1.2.3.4", "::1.2.3.4:",
		"1:2:3:4:5:6:7:1.2.3.4", "1:2:3:4:5:6:7:8:1.2.3.4", "1:2:3:4:5:1.2.3.4", "1:2:3:4:5:6::1.2.3.4", "::1:2:3:4:5:6:1.2.3.4",
	} {
		checkNone(t, s)
	}
}

// TestNumbersInTens: each number at each of the four places; those beside it are ordinary.
func TestNumbersInTens(t *testing.T) {
	put := func(place int, number string) string {
		numbers := []string{"1", "2", "3", "4"}
		numbers[place] = number
		return strings.Join(numbers, ".")
	}
	for place := range 4 {
		for n := range 2000 {
			number := strconv.Itoa(n)
			for _, front := range []string{"::", "::ffff:", "0:0:0:0:0:0:", "1::"} {
				s := front + put(place, number)
				if n > 255 {
					checkNone(t, s)
					continue
				}
				parts := [4]uint16{1, 2, 3, 4}
				parts[place] = uint16(n)
				want, _ := refParse(front + "0.0.0.0")
				want[6], want[7] = parts[0]<<8|parts[1], parts[2]<<8|parts[3]
				checkAddress(t, s, want)
				checkNone(t, front+put(place, "0"+number))
				checkNone(t, front+put(place, "00"+number))
			}
		}
		for _, number := range []string{
			"", "00", "000", "01", "010", "0x", "0x1", "0X1", "a", "f", "1a", "256", "260", "300", "999", "1000", "0255", "0000", "1234", "65536", "4294967296", "4294967297", "18446744073709551617",
			"-1", "+1", "-0", "+0", "1-", " 1", "1 ", "1e1", "1_0", "１", "٣", "\x00", "1\x00", "\xff", "%31", strings.Repeat("0", 100), strings.Repeat("9", 100), "1.", ".1", "1.1",
		} {
			checkNone(t, "::"+put(place, number))
			checkNone(t, "1:2:3:4:5:6:"+put(place, number))
		}
	}
}

// TestFullStops: three and five numbers, fewer and more, and full stops side by side, ahead and behind.
func TestFullStops(t *testing.T) {
	for n := 2; n <= 300; n++ {
		if n == 4 {
			continue
		}
		s := strings.Repeat("1.", n-1) + "1"
		checkNone(t, "::"+s)
		checkNone(t, "1:2:3:4:5:6:"+s)
		checkNone(t, "::"+s+".")
	}
	for _, s := range []string{
		".", "..", "...", "....", ".1", "1.", "1.2", "1.2.", "1.2.3", "1.2.3.", ".1.2.3", "1.2.3.4.", ".1.2.3.4", ".1.2.3.4.", "1..2.3", "1.2..3", "1.2.3..", "..1.2", "1..2.3.4", "1.2..3.4", "1.2.3..4", "1.2.3.4..", "1.2.3.4.5", "1.2.3.4.5.",
		"0x7f.1", "16909060.", "0x1.2.3.4", "1.2.3.0x4", "01.2.3.4", "1.2.3.04", "1.515", "1.2.772", "1.2.3.4/8", "1.2.3.4%1", "1,2.3.4", "1.2.3,4",
	} {
		checkNone(t, "::"+s)
		checkNone(t, "1:2:3:4:5:6:"+s)
		checkNone(t, "::ffff:"+s)
		checkNone(t, s)
	}
	checkNone(t, "::16909060") // ip4 reads it, and it is no four numbers
	checkNone(t, "::0x7f")
	checkNone(t, "::"+strings.Repeat(".", 100000))
	checkNone(t, "::"+strings.Repeat("1.", 100000))
}

func TestSomethingBehind(t *testing.T) {
	for _, s := range []string{"::", "::1", "1::", "1:2:3:4:5:6:7:8", "::1.2.3.4", "1:2:3:4:5:6:1.2.3.4", "1::8"} {
		if _, e := Parse(s); e != api.OK {
			t.Errorf("Parse(%q): %d", s, e)
		}
		for _, more := range []string{" ", "\n", "\x00", "%", "%1", "%25eth0", "%eth0", "/", "/64", "]", "]:80", ":", "::", ":::", ".", "g", "-", "?", "#", "\xff", "é", ":x", "::x", " ::1"} {
			checkNone(t, s+more)
		}
		for _, more := range []string{" ", "[", "\n", "\x00", ".", "g", "-", "//", "\xff", "é", ":"} {
			checkNone(t, more+s)
		}
		checkNone(t, "["+s+"]")
	}
}

// P8.2: Show

func TestShow(t *testing.T) {
	for want, a := range map[string][8]uint16{
		"::":                          {},
		"1::":                         {0: 1},
		"1:2:3:4:5:6:7:8":             {1, 2, 3, 4, 5, 6, 7, 8},
		"1:0:3:4:5:6:7:8":             {1, 0, 3, 4, 5, 6, 7, 8},
		"0:2:3:4:5:6:7:8":             {0, 2, 3, 4, 5, 6, 7, 8},
		"1:2:3:4:5:6:7:0":             {1, 2, 3, 4, 5, 6, 7, 0},
		"0:2:0:4:0:6:0:8":             {0, 2, 0, 4, 0, 6, 0, 8},
		"1:0:3:0:5:0:7:0":             {1, 0, 3, 0, 5, 0, 7, 0},
		"::3:4:5:6:7:8":               {0, 0, 3, 4, 5, 6, 7, 8},
		"1::4:5:6:7:8":                {1, 0, 0, 4, 5, 6, 7, 8},
		"1:2:3:4:5:6::":               {1, 2, 3, 4, 5, 6, 0, 0},
		"::3:4:5:6:0:0":               {0, 0, 3, 4, 5, 6, 0, 0},
		"::3:0:0:6:0:0":               {0, 0, 3, 0, 0, 6, 0, 0},
		"1::4:0:0:7:8":                {1, 0, 0, 4, 0, 0, 7, 8},
		"0:2::5:6:0:0":                {0, 2, 0, 0, 5, 6, 0, 0},
		"0:0:3::7:8":                  {0, 0, 3, 0, 0, 0, 7, 8},
		"::4:0:0:7:8":                 {0, 0, 0, 4, 0, 0, 7, 8},
		"0:0:3:4:5::":                 {0, 0, 3, 4, 5, 0, 0, 0},
		"::4:5:0:0:0":                 {0, 0, 0, 4, 5, 0, 0, 0},
		"1:0:0:4::":                   {1, 0, 0, 4, 0, 0, 0, 0},
		"1::5:0:0:0":                  {1, 0, 0, 0, 5, 0, 0, 0},
		"0:0:0:4::":                   {0, 0, 0, 4, 0, 0, 0, 0},
		"::5:0:0:0":                   {0, 0, 0, 0, 5, 0, 0, 0},
		"1::6:0:8":                    {1, 0, 0, 0, 0, 6, 0, 8},
		"::8":                         {7: 8},
		"a:b:c:d:e:f:10:abcd":         {10, 11, 12, 13, 14, 15, 16, 0xabcd},
		"f:ff:fff:ffff:1:10:100:1000": {0xf, 0xff, 0xfff, 0xffff, 1, 0x10, 0x100, 0x1000},
		"10::100":                     {0: 0x10, 7: 0x100},
		"::ffff:c0a8:101":             {5: 0xffff, 6: 0xc0a8, 7: 0x0101},
		"::102:304":                   {6: 0x102, 7: 0x304},
		"ffff:ffff:ffff:ffff:ffff:ffff:ffff:ffff": {0xffff, 0xffff, 0xffff, 0xffff, 0xffff, 0xffff, 0xffff, 0xffff},
	} {
		checkShow(t, want, a)
	}
}

// TestShowOfAllRows: each choice of which pieces are noughts, with small and great pieces beside them.
func TestShowOfAllRows(t *testing.T) {
	for _, n := range []uint16{1, 0xf, 0x10, 0xff, 0x100, 0xfff, 0x1000, 0xabcd, 0x8000, 0xffff} {
		for mask := range 256 {
			var a [8]uint16
			for i := range a {
				if mask>>i&1 == 1 {
					a[i] = n
				}
			}
			checkBack(t, a)
		}
	}
}

// TestShowOfEachPiece: every piece there is, at each place, beside noughts and beside others.
func TestShowOfEachPiece(t *testing.T) {
	for n := range 1 << 16 {
		for _, beside := range []uint16{0, 7} {
			place := n % 8
			a := [8]uint16{beside, beside, beside, beside, beside, beside, beside, beside}
			a[place] = uint16(n)
			checkBack(t, a)
		}
	}
	for place := range 8 {
		for _, n := range []uint16{0, 1, 9, 10, 15, 16, 255, 256, 4095, 4096, 32767, 32768, 65534, 65535} {
			a := [8]uint16{1, 2, 3, 4, 5, 6, 7, 8}
			a[place] = n
			want := inAll(place, strconv.FormatUint(uint64(n), 16))
			checkShow(t, want, a)
		}
	}
}

// R1 to R3, and what follows

// TestShortTexts: all texts of few signs.
func TestShortTexts(t *testing.T) {
	var walk func(s string, signs string, left int)
	walk = func(s string, signs string, left int) {
		checkAny(t, s)
		if left > 0 {
			for i := range len(signs) {
				walk(s+signs[i:i+1], signs, left-1)
			}
		}
	}
	walk("", ":1.", 9)
	walk("", ":0f.g", 5)
	walk("1:2:3:4:5:6", ":1.", 6)
	walk("1:2:3:4:5", ":1.", 6)
	walk("::", ":1.0", 7)
	walk("1:2:3:4:5:6:", "1.025", 6)
}

var seeds = []string{
	"", ":", "::", "::1", "1::", "1:2:3:4:5:6:7:8", "1:2:3:4:5:6:7::", "::2:3:4:5:6:7:8", "1::8", "::1.2.3.4", "1:2:3:4:5:6:255.0.10.199", "ffff::FFFF:1.2.3.4", "2001:db8::ff00:42:8329", "1:0:0:4::8", "fe80::1%1", "[::1]", "0:0:0:0:0:0:0:0", "::0.0.0.0", "1:2:3:4:5::1.2.3.4",
}

// randomText tells signs at random, or a seed with some of its signs changed, left out or put in.
func randomText(r *rand.Rand) string {
	const signs = "::::0123456789abcdefABCDEF...gx %-"
	if r.Intn(4) == 0 {
		b := make([]byte, r.Intn(24))
		for i := range b {
			b[i] = signs[r.Intn(len(signs))]
		}
		return string(b)
	}
	b := []byte(seeds[r.Intn(len(seeds))])
	for range r.Intn(4) {
		at := r.Intn(len(b) + 1)
		switch r.Intn(3) {
		case 0:
			b = append(b[:at:at], append([]byte{signs[r.Intn(len(signs))]}, b[at:]...)...)
		case 1:
			if at < len(b) {
				b = append(b[:at:at], b[at+1:]...)
			}
		default:
			if at < len(b) {
				b[at] = signs[r.Intn(len(signs))]
			}
		}
	}
	return string(b)
}

func TestRandomTexts(t *testing.T) {
	r := rand.New(rand.NewSource(8))
	taken := 0
	for range 300000 {
		s := randomText(r)
		checkAny(t, s)
		if _, e := Parse(s); e == api.OK {
			taken++
		}
	}
	if taken < 10000 {
		t.Errorf("only %d of the texts were addresses", taken)
	}
}

// randomAddress has more noughts than chance would give it.
func randomAddress(r *rand.Rand) (a [8]uint16) {
	for i := range a {
		if r.Intn(2) == 0 {
			a[i] = uint16(r.Intn(1<<16)) >> r.Intn(16)
		}
	}
	return a
}

// spelt tells a in one of the ways in which it may be written.
func spelt(r *rand.Rand, a [8]uint16) string {
	var words []string
	pieces := 8
	if r.Intn(2) == 0 {
		pieces = 6
	}
	for _, piece := range a[:pieces] {
		word := strconv.FormatUint(uint64(piece), 16)
		if r.Intn(2) == 0 {
			word = strings.ToUpper(word)
		}
		words = append(words, strings.Repeat("0", r.Intn(5-len(word)))+word)
	}
	if pieces == 6 {
		var numbers []string
		for _, n := range []uint16{a[6] >> 8, a[6] & 255, a[7] >> 8, a[7] & 255} {
			numbers = append(numbers, strconv.Itoa(int(n)))
		}
		words = append(words, strings.Join(numbers, "."))
	}
	from := r.Intn(pieces)
	to := from
	for to < pieces && a[to] == 0 && r.Intn(4) > 0 {
		to++
	}
	if from == to {
		return strings.Join(words, ":")
	}
	return strings.Join(words[:from], ":") + "::" + strings.Join(words[to:], ":")
}

func TestRandomAddresses(t *testing.T) {
	r := rand.New(rand.NewSource(88))
	for range 200000 {
		a := randomAddress(r)
		checkAddress(t, spelt(r, a), a)
	}
}

// TestMemory: a text that shares its bytes with a buffer is not changed, spare room neither, and is not kept; what is shown is new memory.
func TestMemory(t *testing.T) {
	for _, s := range seeds {
		room := []byte("##" + s + "##")
		handed := unsafe.String(&room[2], len(s))
		if s == "" {
			handed = ""
		}
		a, e := Parse(handed)
		if string(room) != "##"+s+"##" {
			t.Errorf("Parse(%q) changed what was handed in: %q", s, room)
		}
		shown, again := Show(a), Show(a)
		for i := range room {
			room[i] = 'f'
		}
		if b, f := Parse(s); b != a || f != e {
			t.Errorf("Parse(%q): %x, %d, then %x, %d", s, a, e, b, f)
		}
		if shown != Show(a) || shown != again {
			t.Errorf("Show(%x): %q, %q, %q", a, shown, again, Show(a))
		}
		if e == api.OK && unsafe.StringData(shown) == unsafe.StringData(again) {
			t.Errorf("Show(%x): twice the same memory", a)
		}
	}
}

// TestOneAfterAnother: what was asked ahead is not told.
func TestOneAfterAnother(t *testing.T) {
	checkAddress(t, "1:2:3:4:5:6:7:8", [8]uint16{1, 2, 3, 4, 5, 6, 7, 8})
	checkNone(t, "1:2:3:4:5:6:7")
	checkAddress(t, "::", [8]uint16{})
	checkNone(t, "")
	checkAddress(t, "::8", [8]uint16{7: 8})
}

func FuzzParse(f *testing.F) {
	for _, s := range seeds {
		f.Add(s)
	}
	f.Fuzz(func(t *testing.T, s string) { checkAny(t, s) })
}
