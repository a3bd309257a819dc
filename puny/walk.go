package puny

import "shortcut/api"

// RFC 3492's numbers.
const (
	base      = 36
	tmin      = 1
	tmax      = 26
	skew      = 38
	damp      = 700
	firstBias = 72

	digits = "abcdefghijklmnopqrstuvwxyz0123456789"
)

// tooMuch is further than from any place to any other: no code point has more than MaxLabel of them. What would be more is made tooMuch, so that no number goes round: a digit times it is far from an int64's end.
const tooMuch = (maxCode + 1) * api.MaxLabel

// walk goes through the places at which a code point can be put: all those for one code point, from the front, then those for the next code point. Encode and Decode go the same way.
type walk struct {
	code, place int64
	size        int64 // how many code points are there
	bias        int64
	begun       bool
}

func newWalk(size int) walk {
	return walk{code: firstCode, size: int64(size), bias: firstBias}
}

// deltaTo tells how far a place is that is not behind w.
func (w *walk) deltaTo(code, place int64) int64 {
	return (code-w.code)*(w.size+1) + place - w.place
}

// move goes that far, puts a code point there, and tells which and where.
func (w *walk) move(delta int64) (code, place int64) {
	far := w.place + delta
	code, place = w.code+far/(w.size+1), far%(w.size+1)
	w.code, w.place = code, place+1
	w.size++
	w.bias = adapt(delta, w.size, !w.begun)
	w.begun = true
	return code, place
}

// adapt tells the bias of the next number, which is likely to be about as great as delta.
func adapt(delta, size int64, first bool) int64 {
	if first {
		delta /= damp
	} else {
		delta /= 2
	}
	delta += delta / size
	var k int64
	for delta > (base-tmin)*tmax/2 {
		delta /= base - tmin
		k += base
	}
	return k + (base-tmin+1)*delta/(delta+skew)
}

// threshold tells below what the digit at (0 on) is a number's last one.
func threshold(at, bias int64) int64 {
	return min(max((at+1)*base-bias, tmin), tmax)
}

func appendNumber(b []byte, n, bias int64) []byte {
	for at := int64(0); ; at++ {
		t := threshold(at, bias)
		if n < t {
			return append(b, digits[n])
		}
		b = append(b, digits[t+(n-t)%(base-t)])
		n = (n - t) / (base - t)
	}
}

// cutNumber tells the number at the front of s, tooMuch if it is more, and what of s is behind it.
func cutNumber(s string, bias int64) (n int64, rest string, ok bool) {
	weight := int64(1)
	for at := range len(s) {
		d, isDigit := digit(s[at])
		if !isDigit {
			return 0, "", false
		}
		n = min(n+d*weight, tooMuch)
		t := threshold(int64(at), bias)
		if d < t {
			return n, s[at+1:], true
		}
		weight = min(weight*(base-t), tooMuch)
	}
	return 0, "", false
}

func digit(x byte) (value int64, ok bool) {
	switch {
	case x >= 'a' && x <= 'z':
		return int64(x - 'a'), true
	case x >= 'A' && x <= 'Z':
		return int64(x - 'A'), true
	case x >= '0' && x <= '9':
		return int64(x-'0') + 26, true
	}
	return 0, false
}
