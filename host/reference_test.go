package host

import (
	"fmt"
	"net/netip"
	"regexp"
	"strconv"
	"strings"

	"shortcut/api"
	"shortcut/domain"
)

// The chapter's words a second time, in other means: patterns, and the library's addresses.

var (
	perCent     = regexp.MustCompile(`%[0-9A-Fa-f]{2}`)
	refWrong    = regexp.MustCompile(`[\x00\x09\x0A\x0D\x20\x23\x2F\x3A\x3C\x3E\x3F\x40\x5B-\x5E\x7C]`)
	numberAtEnd = regexp.MustCompile(`(^|\.)([0-9]+|0[xX][0-9a-fA-F]*)\.?$`)
	numberPart  = regexp.MustCompile(`^(0|[1-9][0-9]*|0[0-7]+|0[xX][0-9a-fA-F]*)$`)
)

func refDecode(s string) string {
	return perCent.ReplaceAllStringFunc(s, func(x string) string {
		n, err := strconv.ParseUint(x[1:], 16, 8)
		if err != nil {
			panic("a pattern of the reference is wrong: " + x)
		}
		return string([]byte{byte(n)})
	})
}

// refLong: the library's reading of what stands in brackets, which takes short numbers and zones too, and shows some in tens.
func refLong(between string) (string, api.Errno) {
	addr, err := netip.ParseAddr(between)
	switch {
	case err != nil || addr.Is4() || strings.Contains(between, "%"):
		return "", api.ErrHost
	case addr.Is4In6():
		b := addr.As16()
		return fmt.Sprintf("[::ffff:%x:%x]", int(b[12])<<8|int(b[13]), int(b[14])<<8|int(b[15])), api.OK
	}
	return "[" + addr.String() + "]", api.OK
}

func refNumber(name string) (string, api.Errno) {
	parts := strings.Split(strings.TrimSuffix(name, "."), ".")
	if len(parts) > 4 {
		return "", api.ErrHost
	}
	var b []byte
	for i, part := range parts {
		size := 1
		if i == len(parts)-1 {
			size = 5 - len(parts)
		}
		n, err := strconv.ParseUint(strings.Replace(strings.ToLower(part), "0x", "0x0", 1), 0, 8*size)
		if err != nil || !numberPart.MatchString(part) {
			return "", api.ErrHost
		}
		for size > 0 {
			size--
			b = append(b, byte(n>>(8*size)))
		}
	}
	addr, _ := netip.AddrFromSlice(b)
	return addr.String(), api.OK
}

func refParse(s string, special bool) (string, api.Errno) {
	if between, ok := strings.CutPrefix(s, "["); ok {
		if !strings.HasSuffix(between, "]") {
			return "", api.ErrHost
		}
		return refLong(between[:len(between)-1])
	}
	if special {
		name, e := domain.ASCII([]byte(refDecode(s)))
		if e == api.OK && numberAtEnd.MatchString(name) {
			return refNumber(name)
		}
		return name, e
	}
	if refWrong.MatchString(s) {
		return "", api.ErrHost
	}
	var out []byte
	for i := range len(s) {
		if s[i] >= 32 && s[i] <= 126 {
			out = append(out, s[i])
		} else {
			out = fmt.Appendf(out, "%%%02X", s[i])
		}
	}
	return string(out), api.OK
}

// refIP4: the library reads four numbers in tens as they are shown, and nothing else without a colon.
func refIP4(s string) (uint32, bool) {
	addr, err := netip.ParseAddr(s)
	if err != nil || !addr.Is4() {
		return 0, false
	}
	b := addr.As4()
	return uint32(b[0])<<24 | uint32(b[1])<<16 | uint32(b[2])<<8 | uint32(b[3]), true
}

// refIP6: of a text that is the one in which a long number is told.
func refIP6(s string) (a [8]uint16, is bool) {
	if shown, e := refParse(s, false); e != api.OK || shown != s || !strings.HasPrefix(s, "[") {
		return a, false
	}
	b := netip.MustParseAddr(s[1 : len(s)-1]).As16()
	for i := range a {
		a[i] = uint16(b[2*i])<<8 | uint16(b[2*i+1])
	}
	return a, true
}
