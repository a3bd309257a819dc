// Package octet: numbers and frames of bytes: see doc/01-octet.md.
package octet

import "shortcut/api"

const (
	maxNumber = 8 // bytes of the longest number
	lenSize   = 4 // bytes of a length
	sumSize   = 4 // bytes of a sum
	headSize  = lenSize + sumSize
	sumPoly   = 0xEDB88320
)

// Put tells b with the n lowest bytes of v behind it, the highest first; of an n that may not be, b alone.
func Put(b []byte, v uint64, n int) []byte {
	if !isNumberSize(n) {
		n = 0
	}
	return appendNumber(copyWithRoom(b, n), v, n)
}

// Take tells the number of b's first n bytes.
func Take(b []byte, n int) (v uint64, e api.Errno) {
	if !isNumberSize(n) {
		return 0, api.ErrArg
	}
	if len(b) < n {
		return 0, api.ErrShort
	}
	return number(b[:n]), api.OK
}

// PutBytes tells b with s's length and s behind it.
func PutBytes(b []byte, s []byte) []byte {
	out := copyWithRoom(b, lenSize+len(s))
	out = appendNumber(out, uint64(len(s)), lenSize)
	return append(out, s...)
}

// TakeBytes tells the bytes that PutBytes laid at b's front, and how many bytes it read.
func TakeBytes(b []byte) (s []byte, n int, e api.Errno) {
	body, e := bodyBehind(b, lenSize)
	if e != api.OK {
		return nil, 0, e
	}
	return copyWithRoom(body, 0), lenSize + len(body), api.OK
}

// Sum tells the CRC-32 of all these bytes, one part behind the other.
func Sum(b ...[]byte) uint32 {
	table := sumTable()
	sum := ^uint32(0)
	for _, part := range b {
		for _, x := range part {
			sum ^= uint32(x)
			sum = sum>>4 ^ table[sum&15]
			sum = sum>>4 ^ table[sum&15]
		}
	}
	return ^sum
}

// Frame tells b with its length and its sum ahead of it.
func Frame(b []byte) []byte {
	out := copyWithRoom(nil, headSize+len(b))
	out = appendNumber(out, uint64(len(b)), lenSize)
	out = appendNumber(out, uint64(Sum(b)), sumSize)
	return append(out, b...)
}

// Unframe tells the bytes of the frame at b's front, and how many bytes it read.
func Unframe(b []byte) (s []byte, n int, e api.Errno) {
	body, e := bodyBehind(b, headSize)
	if e != api.OK {
		return nil, 0, e
	}
	if number(b[lenSize:headSize]) != uint64(Sum(body)) {
		return nil, 0, api.ErrForm
	}
	return copyWithRoom(body, 0), headSize + len(body), api.OK
}

func isNumberSize(n int) bool {
	return n >= 0 && n <= maxNumber
}

// copyWithRoom keeps what is handed in apart from what is told: to append to b itself could write into its spare room.
func copyWithRoom(b []byte, room int) []byte {
	return append(make([]byte, 0, len(b)+room), b...)
}

func appendNumber(b []byte, v uint64, n int) []byte {
	for i := n - 1; i >= 0; i-- {
		b = append(b, byte(v>>(8*i)))
	}
	return b
}

func number(b []byte) uint64 {
	v := uint64(0)
	for _, x := range b {
		v = v<<8 | uint64(x)
	}
	return v
}

// bodyBehind tells the piece of b behind a head of that size (at least lenSize) that begins with the piece's length.
func bodyBehind(b []byte, head int) ([]byte, api.Errno) {
	if len(b) < head {
		return nil, api.ErrShort
	}
	size, rest := number(b[:lenSize]), b[head:]
	// Held against each other as uint64: a length may be greater than an int.
	if size > uint64(len(rest)) {
		return nil, api.ErrShort
	}
	return rest[:size], api.OK
}

// sumTable has a row for each half byte, not for each byte: it is made anew for each Sum, and most of what is summed is short.
func sumTable() [16]uint32 {
	var table [16]uint32
	for i := range table {
		row := uint32(i)
		for range 4 {
			low := row & 1
			row >>= 1
			if low == 1 {
				row ^= sumPoly
			}
		}
		table[i] = row
	}
	return table
}
