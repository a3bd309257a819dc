package puny

import (
	"math/big"
	"strings"

	"shortcut/api"
)

// What the tests hold Encode and Decode against: RFC 3492's sections 6.1 to 6.3 word for word, on numbers without end.

func whole(n int64) *big.Int { return big.NewInt(n) }

func plus(a, b *big.Int) *big.Int  { return new(big.Int).Add(a, b) }
func times(a, b *big.Int) *big.Int { return new(big.Int).Mul(a, b) }

func parted(a *big.Int, b int64) (*big.Int, int64) {
	q, r := new(big.Int).DivMod(a, whole(b), new(big.Int))
	return q, r.Int64()
}

func refAdapt(delta *big.Int, numpoints int, firsttime bool) int {
	if firsttime {
		delta, _ = parted(delta, 700)
	} else {
		delta, _ = parted(delta, 2)
	}
	more, _ := parted(delta, int64(numpoints))
	delta = plus(delta, more)
	k := 0
	for delta.Cmp(whole(455)) > 0 {
		delta, _ = parted(delta, 35)
		k += 36
	}
	d := int(delta.Int64())
	return k + 36*d/(d+38)
}

func refThreshold(k, bias int) int {
	if k <= bias+1 {
		return 1
	}
	if k >= bias+26 {
		return 26
	}
	return k - bias
}

func refDigit(d int) string {
	if d < 26 {
		return string(rune('a' + d))
	}
	return string(rune('0' + d - 26))
}

func refNumber(q *big.Int, bias int) string {
	var out strings.Builder
	for k := 36; ; k += 36 {
		t := refThreshold(k, bias)
		if q.Cmp(whole(int64(t))) < 0 {
			out.WriteString(refDigit(int(q.Int64())))
			return out.String()
		}
		rest, digit := parted(plus(q, whole(int64(-t))), int64(36-t))
		out.WriteString(refDigit(t + int(digit)))
		q = rest
	}
}

func refIsCode(r rune) bool { return r >= 0 && r <= 0x10FFFF && (r < 0xD800 || r > 0xDFFF) }

func refEncode(l []rune) (string, api.Errno) {
	if len(l) > 63 {
		return "", api.ErrArg
	}
	var out strings.Builder
	h := 0
	for _, r := range l {
		if !refIsCode(r) {
			return "", api.ErrArg
		}
		if r < 128 {
			out.WriteByte(byte(r))
			h++
		}
	}
	b := h
	if b > 0 {
		out.WriteByte('-')
	}
	n, bias, delta := rune(128), 72, whole(0)
	for h < len(l) {
		m := rune(0x10FFFF)
		for _, r := range l {
			if r >= n {
				m = min(m, r)
			}
		}
		delta = plus(delta, times(whole(int64(m-n)), whole(int64(h+1))))
		n = m
		for _, r := range l {
			if r < n {
				delta = plus(delta, whole(1))
			}
			if r == n {
				out.WriteString(refNumber(delta, bias))
				bias = refAdapt(delta, h+1, h == b)
				delta = whole(0)
				h++
			}
		}
		delta = plus(delta, whole(1))
		n++
	}
	return out.String(), api.OK
}

func refDecode(s string) ([]rune, api.Errno) {
	if len(s) > 200 {
		return nil, api.ErrForm
	}
	var out []rune
	b := max(strings.LastIndex(s, "-"), 0)
	for i := 0; i < b; i++ {
		if s[i] > 127 {
			return nil, api.ErrForm
		}
		out = append(out, rune(s[i]))
	}
	in := 0
	if b > 0 {
		in = b + 1
	}
	n, i, bias := whole(128), whole(0), 72
	for in < len(s) {
		oldi, w := i, whole(1)
		for k := 36; ; k += 36 {
			if in == len(s) {
				return nil, api.ErrForm
			}
			digit := strings.Index("abcdefghijklmnopqrstuvwxyz0123456789ABCDEFGHIJKLMNOPQRSTUVWXYZ", s[in:in+1])
			if digit < 0 {
				return nil, api.ErrForm
			}
			digit %= 36
			in++
			i = plus(i, times(whole(int64(digit)), w))
			t := refThreshold(k, bias)
			if digit < t {
				break
			}
			w = times(w, whole(int64(36-t)))
		}
		size := len(out) + 1
		bias = refAdapt(plus(i, new(big.Int).Neg(oldi)), size, oldi.Sign() == 0)
		more, place := parted(i, int64(size))
		n = plus(n, more)
		if n.Cmp(whole(0x10FFFF)) > 0 || !refIsCode(rune(n.Int64())) {
			return nil, api.ErrForm
		}
		out = append(out[:place:place], append([]rune{rune(n.Int64())}, out[place:]...)...)
		i = whole(place + 1)
	}
	if len(out) > 63 {
		return nil, api.ErrForm
	}
	return out, api.OK
}
