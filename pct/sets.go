package pct

import "strings"

// Each set embeds the one whose bytes it has too, and asks for these by the method that is promoted from it.

type controlSet struct{}

func (controlSet) control(b byte) bool {
	return b < ' ' || b > '~'
}

type fragmentSet struct{ controlSet }

func (s fragmentSet) fragment(b byte) bool {
	return s.control(b) || isOneOf(" \"<>`", b)
}

type querySet struct{ controlSet }

func (s querySet) query(b byte) bool {
	return s.control(b) || isOneOf(" \"#<>", b)
}

type specialSet struct{ querySet }

func (s specialSet) special(b byte) bool {
	return s.query(b) || b == '\''
}

type pathSet struct{ querySet }

func (s pathSet) path(b byte) bool {
	return s.query(b) || isOneOf("?^`{}", b)
}

type userSet struct{ pathSet }

func (s userSet) user(b byte) bool {
	return s.path(b) || isOneOf("/:;=@[\\]|", b)
}

// formSet is told by what it leaves out, so it goes on from no other.
type formSet struct{}

func (formSet) form(b byte) bool {
	switch {
	case b >= 'A' && b <= 'Z', b >= 'a' && b <= 'z', b >= '0' && b <= '9':
		return false
	}
	return !isOneOf("*-._", b)
}

func isOneOf(text string, b byte) bool {
	return strings.IndexByte(text, b) >= 0
}
