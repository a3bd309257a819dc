package domain

import (
	"slices"
	"strings"

	"shortcut/api"
	"shortcut/fold"
	"shortcut/puny"
)

const (
	mark      = "xn--" // ahead of each label that is encoded
	firstCode = 128    // those below it are written as they are
)

func writeAll(labels [][]rune) ([]string, bool) {
	var out []string
	for _, l := range labels {
		s, ok := write(l)
		if !ok {
			return nil, false
		}
		out = append(out, s)
	}
	return out, true
}

// write tells a label in signs below 128. One that seems to be encoded already must be so, or it would not stand for any label.
func write(l []rune) (string, bool) {
	if !isPlain(l) {
		return encode(l)
	}
	s := string(l)
	if strings.HasPrefix(s, mark) && !isEncoded(s) {
		return "", false
	}
	return s, true
}

func encode(l []rune) (string, bool) {
	s, e := puny.Encode(l)
	return mark + s, e == api.OK
}

// isEncoded tells whether s, which begins with the mark, is what write tells of a label that is not plain, and that no fold makes another.
func isEncoded(s string) bool {
	l, e := puny.Decode(s[len(mark):])
	if e != api.OK || isPlain(l) || !slices.Equal(fold.Text(l), l) {
		return false
	}
	again, ok := encode(l)
	return ok && again == s
}

func isPlain(l []rune) bool {
	for _, r := range l {
		if r >= firstCode {
			return false
		}
	}
	return true
}
