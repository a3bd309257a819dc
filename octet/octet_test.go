package octet

import (
	"bytes"
	"hash/crc32"
	"math"
	"testing"

	"shortcut/api"
)

// withSpare hands out content with spare room behind it, and the whole memory, so that a test can see both.
func withSpare(content string) (b, whole []byte) {
	whole = append([]byte(content), bytes.Repeat([]byte{0xA5}, 64)...)
	return whole[:len(content)], whole
}

// checkApart fails if made is other than want, if the call that made it changed whole, or if made and whole share memory.
func checkApart(t *testing.T, name string, made, want []byte, content string, whole []byte) {
	t.Helper()
	_, before := withSpare(content)
	if !bytes.Equal(made, want) {
		t.Errorf("%s: %v, not %v", name, made, want)
	}
	if !bytes.Equal(whole, before) {
		t.Errorf("%s changed what it was handed: %v", name, whole)
	}
	made = made[:cap(made)]
	for i := range made {
		made[i] ^= 0xFF
	}
	if !bytes.Equal(whole, before) {
		t.Errorf("%s told memory that it was handed", name)
	}
}

// P1.1

func TestPut(t *testing.T) {
	const v = 0x0102030405060708
	for _, x := range []struct {
		v    uint64
		n    int
		want []byte
	}{
		{v, 0, nil},
		{v, 1, []byte{8}},
		{v, 2, []byte{7, 8}},
		{v, 3, []byte{6, 7, 8}},
		{v, 4, []byte{5, 6, 7, 8}},
		{v, 5, []byte{4, 5, 6, 7, 8}},
		{v, 6, []byte{3, 4, 5, 6, 7, 8}},
		{v, 7, []byte{2, 3, 4, 5, 6, 7, 8}},
		{v, 8, []byte{1, 2, 3, 4, 5, 6, 7, 8}},
		{0, 4, []byte{0, 0, 0, 0}},
		{256, 1, []byte{0}},
		{math.MaxUint64, 1, []byte{255}},
		{math.MaxUint64, 8, bytes.Repeat([]byte{255}, 8)},
		{v, -1, nil},
		{v, 9, nil},
		{v, math.MinInt, nil},
		{v, math.MaxInt, nil},
	} {
		for _, content := range []string{"", "front"} {
			b, whole := withSpare(content)
			got := Put(b, x.v, x.n)
			checkApart(t, "Put", got, append([]byte(content), x.want...), content, whole)
		}
		if got := Put(nil, x.v, x.n); !bytes.Equal(got, x.want) {
			t.Errorf("Put(nil, %d, %d): %v", x.v, x.n, got)
		}
	}
}

func TestTake(t *testing.T) {
	eight := []byte{1, 2, 3, 4, 5, 6, 7, 8}
	for _, x := range []struct {
		b    []byte
		n    int
		want uint64
		e    api.Errno
	}{
		{eight, 0, 0, api.OK},
		{eight, 1, 1, api.OK},
		{eight, 2, 0x0102, api.OK},
		{eight, 7, 0x01020304050607, api.OK},
		{eight, 8, 0x0102030405060708, api.OK},
		{append(bytes.Clone(eight), 9), 8, 0x0102030405060708, api.OK},
		{bytes.Repeat([]byte{255}, 8), 8, math.MaxUint64, api.OK},
		{[]byte{0, 0, 5}, 3, 5, api.OK},
		{nil, 0, 0, api.OK},
		{[]byte{}, 0, 0, api.OK},
		{nil, 1, 0, api.ErrShort},
		{eight[:1], 2, 0, api.ErrShort},
		{eight[:7], 8, 0, api.ErrShort},
		{eight, -1, 0, api.ErrArg},
		{eight, 9, 0, api.ErrArg},
		{bytes.Repeat(eight, 2), 9, 0, api.ErrArg},
		{nil, -1, 0, api.ErrArg},
		{nil, 9, 0, api.ErrArg}, // ErrArg ahead of ErrShort
		{eight, math.MinInt, 0, api.ErrArg},
		{eight, math.MaxInt, 0, api.ErrArg},
	} {
		if v, e := Take(x.b, x.n); v != x.want || e != x.e {
			t.Errorf("Take(%v, %d): %d, %d", x.b, x.n, v, e)
		}
	}
}

func TestTakeChangesNothing(t *testing.T) {
	b, whole := withSpare("12345678")
	for n := -1; n <= 9; n++ {
		Take(b, n)
	}
	checkApart(t, "Take", nil, nil, "12345678", whole)
}

func TestTakeDoesNotReadSpareRoom(t *testing.T) {
	b, _ := withSpare("12")
	if v, e := Take(b, 3); v != 0 || e != api.ErrShort {
		t.Errorf("Take: %d, %d", v, e)
	}
}

func TestTakeIsPutTurnedRound(t *testing.T) {
	for n := 0; n <= 8; n++ {
		for _, v := range []uint64{0, 1, 127, 128, 255, 256, 65535, 65536, 1<<31 - 1, 1 << 31, 1 << 32, 1 << 63, math.MaxUint64, 0x8877665544332211} {
			want := v
			if n < 8 {
				want = v % (1 << (8 * n))
			}
			if got, e := Take(Put(nil, v, n), n); got != want || e != api.OK {
				t.Errorf("of %d in %d bytes: %d, %d", v, n, got, e)
			}
		}
	}
}

// P1.2

func TestPutBytes(t *testing.T) {
	long := bytes.Repeat([]byte("x"), 0x010203)
	for _, x := range []struct {
		content, s string
		want       []byte
	}{
		{"", "", []byte{0, 0, 0, 0}},
		{"", "abc", []byte{0, 0, 0, 3, 'a', 'b', 'c'}},
		{"front", "", []byte("front\x00\x00\x00\x00")},
		{"front", "abc", []byte("front\x00\x00\x00\x03abc")},
		{"f", string(long), append([]byte{'f', 0, 1, 2, 3}, long...)},
	} {
		b, whole := withSpare(x.content)
		s, wholeS := withSpare(x.s)
		made := PutBytes(b, s)
		checkApart(t, "PutBytes", made, x.want, x.content, whole)
		checkApart(t, "PutBytes", nil, nil, x.s, wholeS)
	}
	if got := PutBytes(nil, nil); !bytes.Equal(got, []byte{0, 0, 0, 0}) {
		t.Errorf("of nothing: %v", got)
	}
}

func TestPutBytesOfItself(t *testing.T) {
	b, whole := withSpare("ab")
	checkApart(t, "PutBytes", PutBytes(b, b), []byte("ab\x00\x00\x00\x02ab"), "ab", whole)
	b, whole = withSpare("ab")
	checkApart(t, "PutBytes", PutBytes(b[:1], whole[:3]), []byte("a\x00\x00\x00\x03ab\xA5"), "ab", whole)
}

func TestTakeBytes(t *testing.T) {
	for _, x := range []struct {
		content string
		want    string
		n       int
		e       api.Errno
	}{
		{"\x00\x00\x00\x00", "", 4, api.OK},
		{"\x00\x00\x00\x00behind", "", 4, api.OK},
		{"\x00\x00\x00\x03abc", "abc", 7, api.OK},
		{"\x00\x00\x00\x03abcbehind", "abc", 7, api.OK},
		{"", "", 0, api.ErrShort},
		{"\x00\x00\x00", "", 0, api.ErrShort},
		{"\x00\x00\x00\x01", "", 0, api.ErrShort},
		{"\x00\x00\x00\x04abc", "", 0, api.ErrShort},
		{"\x00\x00\x01\x00abc", "", 0, api.ErrShort},
		{"\x00\x01\x00\x00abc", "", 0, api.ErrShort},
		{"\x01\x00\x00\x00abc", "", 0, api.ErrShort},
		{"\x7f\xff\xff\xffabc", "", 0, api.ErrShort},
		{"\x80\x00\x00\x00abc", "", 0, api.ErrShort},
		{"\xff\xff\xff\xffabc", "", 0, api.ErrShort},
	} {
		b, whole := withSpare(x.content)
		s, n, e := TakeBytes(b)
		if n != x.n || e != x.e {
			t.Errorf("TakeBytes(%q): %d, %d", x.content, n, e)
		}
		checkApart(t, "TakeBytes", s, []byte(x.want), x.content, whole)
	}
	if s, n, e := TakeBytes(nil); len(s) != 0 || n != 0 || e != api.ErrShort {
		t.Errorf("of nothing: %v, %d, %d", s, n, e)
	}
}

func TestTakeBytesOneBehindTheOther(t *testing.T) {
	parts := []string{"one", "", "three", string(make([]byte, 300))}
	var b []byte
	for _, p := range parts {
		b = PutBytes(b, []byte(p))
	}
	for _, p := range parts {
		s, n, e := TakeBytes(b)
		if string(s) != p || n != 4+len(p) || e != api.OK {
			t.Fatalf("%q: %q, %d, %d", p, s, n, e)
		}
		b = b[n:]
	}
	if len(b) != 0 {
		t.Errorf("left: %v", b)
	}
}

func TestTakeBytesCutOff(t *testing.T) {
	b := PutBytes(nil, []byte("abcdef"))
	for k := range b {
		if s, n, e := TakeBytes(b[:k]); len(s) != 0 || n != 0 || e != api.ErrShort {
			t.Errorf("cut off at %d: %v, %d, %d", k, s, n, e)
		}
	}
}

// P1.3

func TestSum(t *testing.T) {
	for _, x := range []struct {
		b    string
		want uint32
	}{
		{"123456789", 0xCBF43926},
		{"", 0},
		{"a", 0xE8B7BE43},
		{"\x00", 0xD202EF8D},
		{"\xff", 0xFF000000},
		{"\x00\x00\x00\x00", 0x2144DF1C},
	} {
		b, whole := withSpare(x.b)
		if got := Sum(b); got != x.want {
			t.Errorf("Sum(%q): %#x", x.b, got)
		}
		checkApart(t, "Sum", nil, nil, x.b, whole)
	}
	if Sum() != 0 || Sum(nil) != 0 || Sum(nil, []byte{}, nil) != 0 {
		t.Error("of nothing")
	}
}

func TestSumOfEachByte(t *testing.T) {
	for i := range 256 {
		for _, b := range [][]byte{{byte(i)}, {byte(i), 0x5A, 0xFF}, {1, byte(i)}} {
			if got, want := Sum(b), crc32.ChecksumIEEE(b); got != want {
				t.Errorf("Sum(%v): %#x, not %#x", b, got, want)
			}
		}
	}
}

func TestSumOfParts(t *testing.T) {
	const text = "123456789"
	for i := 0; i <= len(text); i++ {
		for j := i; j <= len(text); j++ {
			a, wholeA := withSpare(text[:i])
			b, wholeB := withSpare(text[i:j])
			c, wholeC := withSpare(text[j:])
			parts := [][]byte{a, nil, b, c}
			if got := Sum(parts...); got != 0xCBF43926 {
				t.Errorf("parted at %d and %d: %#x", i, j, got)
			}
			checkApart(t, "Sum", nil, nil, text[:i], wholeA)
			checkApart(t, "Sum", nil, nil, text[i:j], wholeB)
			checkApart(t, "Sum", nil, nil, text[j:], wholeC)
			for k, want := range []string{text[:i], "", text[i:j], text[j:]} {
				if string(parts[k]) != want {
					t.Errorf("part %d became %q", k, parts[k])
				}
			}
		}
	}
	if Sum([]byte("56789"), []byte("1234")) == 0xCBF43926 {
		t.Error("the order of parts does not tell")
	}
}

func TestFrame(t *testing.T) {
	for _, x := range []struct{ b, want string }{
		{"123456789", "\x00\x00\x00\x09\xCB\xF4\x39\x26123456789"},
		{"", "\x00\x00\x00\x00\x00\x00\x00\x00"},
		{"a", "\x00\x00\x00\x01\xE8\xB7\xBE\x43a"},
	} {
		b, whole := withSpare(x.b)
		checkApart(t, "Frame", Frame(b), []byte(x.want), x.b, whole)
	}
	if got := Frame(nil); !bytes.Equal(got, make([]byte, 8)) {
		t.Errorf("of nothing: %v", got)
	}
}

func TestUnframe(t *testing.T) {
	for _, x := range []struct {
		content string
		want    string
		n       int
		e       api.Errno
	}{
		{"\x00\x00\x00\x09\xCB\xF4\x39\x26123456789", "123456789", 17, api.OK},
		{"\x00\x00\x00\x09\xCB\xF4\x39\x26123456789behind", "123456789", 17, api.OK},
		{"\x00\x00\x00\x00\x00\x00\x00\x00", "", 8, api.OK},
		{"\x00\x00\x00\x00\x00\x00\x00\x00behind", "", 8, api.OK},
		{"\x00\x00\x00\x00\x00\x00\x00\x01", "", 0, api.ErrForm},
		{"\x00\x00\x00\x09\x26\x39\xF4\xCB123456789", "", 0, api.ErrForm},
		{"\x00\x00\x00\x09\xCB\xF4\x39\x26123456780", "", 0, api.ErrForm},
		{"\x00\x00\x00\x08\xCB\xF4\x39\x26123456789", "", 0, api.ErrForm},
		{"\x00\x00\x00\x0A\xCB\xF4\x39\x26123456789", "", 0, api.ErrShort},
		{"\x00\x00\x00\x09\x00\x00\x00\x0012345678", "", 0, api.ErrShort}, // short ahead of another sum
		{"", "", 0, api.ErrShort},
		{"\x00\x00\x00\x00", "", 0, api.ErrShort},
		{"\x00\x00\x00\x00\x00\x00\x00", "", 0, api.ErrShort},
		{"\x7f\xff\xff\xff\x00\x00\x00\x00abc", "", 0, api.ErrShort},
		{"\x80\x00\x00\x00\x00\x00\x00\x00abc", "", 0, api.ErrShort},
		{"\xff\xff\xff\xff\x00\x00\x00\x00abc", "", 0, api.ErrShort},
	} {
		b, whole := withSpare(x.content)
		s, n, e := Unframe(b)
		if n != x.n || e != x.e {
			t.Errorf("Unframe(%q): %d, %d", x.content, n, e)
		}
		checkApart(t, "Unframe", s, []byte(x.want), x.content, whole)
	}
	if s, n, e := Unframe(nil); len(s) != 0 || n != 0 || e != api.ErrShort {
		t.Errorf("of nothing: %v, %d, %d", s, n, e)
	}
}

func TestUnframeOneBehindTheOther(t *testing.T) {
	parts := []string{"one", "", "three", string(make([]byte, 70000))}
	var b []byte
	for _, p := range parts {
		b = append(b, Frame([]byte(p))...)
	}
	for _, p := range parts {
		s, n, e := Unframe(b)
		if string(s) != p || n != 8+len(p) || e != api.OK {
			t.Fatalf("of %d bytes: %d bytes, %d, %d", len(p), len(s), n, e)
		}
		b = b[n:]
	}
	if len(b) != 0 {
		t.Errorf("left: %v", b)
	}
}

func TestUnframeOfATurnedBit(t *testing.T) {
	whole := Frame([]byte("123456789"))
	for k := range whole {
		for bit := range 8 {
			b := append(bytes.Clone(whole), "more bytes behind"...)
			b[k] ^= 1 << bit
			s, n, e := Unframe(b)
			if len(s) != 0 || n != 0 {
				t.Errorf("byte %d, bit %d: %v, %d beside %d", k, bit, s, n, e)
			}
			if k >= lenSize && e != api.ErrForm || k < lenSize && e != api.ErrForm && e != api.ErrShort {
				t.Errorf("byte %d, bit %d: %d", k, bit, e)
			}
		}
	}
}

// What follows

func TestFrameCutOffIsShort(t *testing.T) {
	for _, content := range []string{"", "a", "123456789", string(make([]byte, 300))} {
		b := Frame([]byte(content))
		for k := range b {
			if s, n, e := Unframe(b[:k]); len(s) != 0 || n != 0 || e != api.ErrShort {
				t.Errorf("of %d bytes, cut off at %d: %v, %d, %d", len(content), k, s, n, e)
			}
		}
	}
}

// R1, and that what is read stands within what was handed in, of any bytes.
func FuzzReading(f *testing.F) {
	f.Add([]byte{}, 0)
	f.Add([]byte{0, 0, 0, 1, 2}, 4)
	f.Add(Frame([]byte("123456789")), -1)
	f.Add([]byte{255, 255, 255, 255, 255, 255, 255, 255, 255}, 9)
	f.Fuzz(func(t *testing.T, b []byte, size int) {
		if v, e := Take(b, size); e == api.OK && !bytes.Equal(Put(nil, v, size), b[:size]) {
			t.Errorf("Take(%v, %d): %d", b, size, v)
		}
		if s, n, e := TakeBytes(b); e == api.OK && !bytes.Equal(PutBytes(nil, s), b[:n]) {
			t.Errorf("TakeBytes(%v): %v, %d", b, s, n)
		}
		if s, n, e := Unframe(b); e == api.OK && !bytes.Equal(Frame(s), b[:n]) {
			t.Errorf("Unframe(%v): %v, %d", b, s, n)
		}
		if s, n, e := Unframe(Frame(b)); !bytes.Equal(s, b) || n != 8+len(b) || e != api.OK {
			t.Errorf("Unframe(Frame(%v)): %v, %d, %d", b, s, n, e)
		}
		if got, want := Sum(b), crc32.ChecksumIEEE(b); got != want {
			t.Errorf("Sum(%v): %#x, not %#x", b, got, want)
		}
	})
}
