package url

import "strings"

const (
	stroke      = "/"
	bothStrokes = `/\`
	leftOut     = "\t\n\r" // wherever they stand
)

// cursor goes over an address from its front: left is what it has not read yet.
type cursor struct {
	left    string
	special bool // the address has a special scheme
}

// clean leaves out what says nothing: blanks around the address, tabs and line ends within it.
func (c *cursor) clean() {
	c.left = strings.TrimFunc(c.left, isBlank)
	for _, sign := range leftOut {
		c.left = strings.ReplaceAll(c.left, string(sign), "")
	}
}

// takeScheme goes behind a scheme and its colon, if they stand next. ToLower may hand out what it is handed, so its answer is copied.
func (c *cursor) takeScheme() (scheme string, ok bool) {
	scheme, behind, found := strings.Cut(c.left, behindScheme)
	if !found || !isScheme(scheme) {
		return "", false
	}
	c.left = behind
	return strings.Clone(strings.ToLower(scheme)), true
}

// cutBehind cuts off the first sign and what stands behind it, if there is one.
func (c *cursor) cutBehind(sign string) (behind string, ok bool) {
	c.left, behind, ok = strings.Cut(c.left, sign)
	return behind, ok
}

// strokeSigns tells the signs that are strokes.
func (c *cursor) strokeSigns() string {
	if c.special {
		return bothStrokes
	}
	return stroke
}

// strokes tells how many strokes stand next.
func (c *cursor) strokes() int {
	return len(c.left) - len(strings.TrimLeft(c.left, c.strokeSigns()))
}

// takeStrokes goes behind n strokes, if as many stand next.
func (c *cursor) takeStrokes(n int) bool {
	if c.strokes() < n {
		return false
	}
	c.left = c.left[n:]
	return true
}

// takeToStroke goes to the next stroke, or to the end, and tells what it went over.
func (c *cursor) takeToStroke() string {
	end := strings.IndexAny(c.left, c.strokeSigns())
	if end < 0 {
		end = len(c.left)
	}
	over := c.left[:end]
	c.left = c.left[end:]
	return over
}

func isBlank(r rune) bool {
	return r <= ' '
}

func isScheme(s string) bool {
	for i := range len(s) {
		if !isLetter(s[i]) && (i == 0 || !isSchemeSign(s[i])) {
			return false
		}
	}
	return s != ""
}

func isLetter(b byte) bool {
	return b >= 'A' && b <= 'Z' || b >= 'a' && b <= 'z'
}

// isSchemeSign tells whether b may stand behind the first letter of a scheme, as letters may.
func isSchemeSign(b byte) bool {
	return isDigit(b) || b == '+' || b == '-' || b == '.'
}

func isDigit(b byte) bool {
	return b >= '0' && b <= '9'
}
