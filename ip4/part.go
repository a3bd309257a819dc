package ip4

const (
	eights   = 8
	sixteens = 16
)

// number tells a part's number, if it is one and not above most. It asks ahead of multiplying, so that no number of digits, however great, wraps round.
func number(part string, most uint32) (uint32, bool) {
	if part == "" {
		return 0, false
	}
	digits, base := digitsOf(part)
	var n uint32
	for i := range len(digits) {
		d := digit(digits[i])
		if d >= base || d > most || n > (most-d)/base {
			return 0, false
		}
		n = n*base + d
	}
	return n, true
}

// digitsOf tells what of a part is to be read, and in which base: 0 alone is no sign of eights but a digit.
func digitsOf(part string) (digits string, base uint32) {
	switch {
	case isMarked(part):
		return part[2:], sixteens
	case len(part) > 1 && part[0] == '0':
		return part[1:], eights
	}
	return part, tens
}

// isMarked tells whether a sign of sixteens stands ahead.
func isMarked(part string) bool {
	return len(part) >= 2 && part[0] == '0' && (part[1] == 'x' || part[1] == 'X')
}

func areDigits(s string, base uint32) bool {
	for i := range len(s) {
		if digit(s[i]) >= base {
			return false
		}
	}
	return true
}

// digit tells what x stands for: of what is no digit a number that is below no base.
func digit(x byte) uint32 {
	switch {
	case '0' <= x && x <= '9':
		return uint32(x - '0')
	case 'a' <= x && x <= 'f':
		return uint32(x-'a') + 10
	case 'A' <= x && x <= 'F':
		return uint32(x-'A') + 10
	}
	return sixteens
}
