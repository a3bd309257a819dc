package fold

// span is a range of code points: each step-th one from first to last.
type span struct{ first, last, step rune }

func (s span) has(r rune) bool {
	return r >= s.first && r <= s.last && (r-s.first)%s.step == 0
}

// capitals is a range of large letters, whose small ones are that much more.
type capitals struct {
	span
	more rune
}

var leftOut = [...]span{
	{0x00AD, 0x00AD, 1},
	{0x200B, 0x200D, 1},
	{0x2060, 0x2060, 1},
	{0xFEFF, 0xFEFF, 1},
}

// One that stays amid others that do not (U+00D7, U+03A2) parts them into two ranges, so that no rule has an exception.
var large = [...]capitals{
	{span{'A', 'Z', 1}, 32},
	{span{0x00C0, 0x00D6, 1}, 32},
	{span{0x00D8, 0x00DE, 1}, 32},
	{span{0x0100, 0x012F, 2}, 1},
	{span{0x0391, 0x03A1, 1}, 32},
	{span{0x03A3, 0x03A9, 1}, 32},
	{span{0x0400, 0x040F, 1}, 80},
	{span{0x0410, 0x042F, 1}, 32},
}

func isLeftOut(r rune) bool {
	for _, s := range leftOut {
		if s.has(r) {
			return true
		}
	}
	return false
}

// small tells the small letter of a large one; all others stay.
func small(r rune) rune {
	for _, c := range large {
		if c.has(r) {
			return r + c.more
		}
	}
	return r
}
