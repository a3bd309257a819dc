package ip6

import (
	"strconv"
	"strings"

	"shortcut/api"
	"shortcut/ip4"
)

const (
	fullStop  = "."
	mostSigns = 4 // of a piece
	pieceBits = 16
	noGap     = -1
)

// cursor is a place in a text: what is ahead of it was read.
type cursor struct {
	text string
	at   int
}

func (c *cursor) ended() bool {
	return c.at == len(c.text)
}

// take goes behind sign, if it is what comes next.
func (c *cursor) take(sign string) bool {
	if !strings.HasPrefix(c.text[c.at:], sign) {
		return false
	}
	c.at += len(sign)
	return true
}

// word goes to the next colon, or to the end, and tells what it went over.
func (c *cursor) word() string {
	word, _, _ := strings.Cut(c.text[c.at:], colon)
	c.at += len(word)
	return word
}

// reader goes over an address, and has the pieces that it found.
type reader struct {
	cursor
	pieces [8]uint16
	count  int
	gap    int // how many pieces stand ahead of ::
}

// read goes over the whole text, and tells whether it is an address.
func (r *reader) read() bool {
	if r.take(gapSign) {
		r.gap = 0
	}
	for !r.ended() {
		if !r.readWord() || !r.readSign() {
			return false
		}
	}
	if r.gap == noGap {
		return r.count == len(r.pieces)
	}
	return r.count < len(r.pieces) // :: stands for one piece at the least
}

func (r *reader) readWord() bool {
	word := r.word()
	if strings.Contains(word, fullStop) {
		return r.ended() && r.addNumbers(word)
	}
	return r.addPiece(word)
}

// readSign goes over what may stand behind a piece: :: once, or a colon if another piece follows.
func (r *reader) readSign() bool {
	switch {
	case r.ended():
		return true
	case r.take(gapSign):
		isFirst := r.gap == noGap
		r.gap = r.count
		return isFirst
	}
	return r.take(colon) && !r.ended()
}

// addNumbers adds four numbers in tens as two pieces. Package ip4 reads more than may stand here: only what it would show itself is taken.
func (r *reader) addNumbers(word string) bool {
	n, e := ip4.Parse(word)
	if e != api.OK || ip4.Show(n) != word {
		return false
	}
	return r.add(uint16(n>>pieceBits), uint16(n))
}

func (r *reader) addPiece(word string) bool {
	if len(word) > mostSigns {
		return false
	}
	n, err := strconv.ParseUint(word, sixteens, pieceBits)
	return err == nil && r.add(uint16(n))
}

func (r *reader) add(pieces ...uint16) bool {
	if r.count+len(pieces) > len(r.pieces) {
		return false
	}
	r.count += copy(r.pieces[r.count:], pieces)
	return true
}

// address tells the pieces at their places: those behind :: stand at the end.
func (r *reader) address() [8]uint16 {
	if r.gap == noGap {
		return r.pieces
	}
	var a [8]uint16
	copy(a[:], r.pieces[:r.gap])
	behind := r.pieces[r.gap:r.count]
	copy(a[len(a)-len(behind):], behind)
	return a
}
