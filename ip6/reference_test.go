package ip6

import (
	"net/netip"
	"regexp"
	"strconv"
	"strings"

	"shortcut/api"
)

// The chapter's words a second time, in other means: patterns, and rows of words.

var (
	onePiece = regexp.MustCompile(`^[0-9a-fA-F]{1,4}$`)
	inTens   = regexp.MustCompile(`^(0|[1-9][0-9]?|1[0-9][0-9]|2[0-4][0-9]|25[0-5])$`)
)

// refPieces: the pieces of s, which has no :: in it. Only of what ends the whole text the last two may be in tens.
func refPieces(s string, ends bool) ([]uint16, bool) {
	if s == "" {
		return nil, true
	}
	var out []uint16
	words := strings.Split(s, ":")
	for i, word := range words {
		if onePiece.MatchString(word) {
			out = append(out, refNumber(word, 16))
			continue
		}
		numbers := strings.Split(word, ".")
		if !ends || i < len(words)-1 || len(numbers) != 4 {
			return nil, false
		}
		for _, n := range numbers {
			if !inTens.MatchString(n) {
				return nil, false
			}
		}
		out = append(out, refNumber(numbers[0], 10)<<8|refNumber(numbers[1], 10), refNumber(numbers[2], 10)<<8|refNumber(numbers[3], 10))
	}
	return out, true
}

func refNumber(digits string, base int) uint16 {
	n, err := strconv.ParseUint(digits, base, 16)
	if err != nil {
		panic("a pattern of the reference is wrong: " + digits)
	}
	return uint16(n)
}

func refParse(s string) (a [8]uint16, e api.Errno) {
	sides := strings.Split(s, "::")
	front, okFront := refPieces(sides[0], len(sides) == 1)
	switch {
	case len(sides) == 1 && okFront && len(front) == 8:
		copy(a[:], front)
		return a, api.OK
	case len(sides) != 2:
		return a, api.ErrHost
	}
	back, okBack := refPieces(sides[1], true)
	if !okFront || !okBack || len(front)+len(back) > 7 {
		return a, api.ErrHost
	}
	copy(a[:], front)
	copy(a[8-len(back):], back)
	return a, api.OK
}

// refShow looks for a row of eight noughts first, then for one of seven, and so on.
func refShow(a [8]uint16) string {
	var words []string
	for _, piece := range a {
		words = append(words, strconv.FormatUint(uint64(piece), 16))
	}
	for size := 8; size >= 2; size-- {
		for from := range 8 - size + 1 {
			if strings.Count(strings.Join(words[from:from+size], ""), "0") == size && strings.Trim(strings.Join(words[from:from+size], ""), "0") == "" {
				return strings.Join(words[:from], ":") + "::" + strings.Join(words[from+size:], ":")
			}
		}
	}
	return strings.Join(words, ":")
}

// libParse: the library's reading, which takes short numbers of hosts and zones too.
func libParse(s string) ([8]uint16, api.Errno) {
	var a [8]uint16
	addr, err := netip.ParseAddr(s)
	if err != nil || addr.Is4() || strings.Contains(s, "%") {
		return a, api.ErrHost
	}
	b := addr.As16()
	for i := range a {
		a[i] = uint16(b[2*i])<<8 | uint16(b[2*i+1])
	}
	return a, api.OK
}

// libShow: what the library shows, but for those addresses that it shows in tens.
func libShow(a [8]uint16) (string, bool) {
	var b [16]byte
	for i, piece := range a {
		b[2*i], b[2*i+1] = byte(piece>>8), byte(piece)
	}
	addr := netip.AddrFrom16(b)
	return addr.String(), !addr.Is4In6()
}
