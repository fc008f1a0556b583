// Package bits is layer 1: numbers as bytes, and their bits.
package bits

import (
	"slices"

	"biscotti/api"
)

// Bytes answers n's bytes of that width, the lowest first.
func Bytes(n uint64, width int) ([]byte, api.Errno) {
	if !hasBytes(n, width) {
		return nil, api.ErrRange
	}
	b := make([]byte, width)
	for i := range width {
		b[i] = byte(n >> (8 * i))
	}
	return b, api.OK
}

// Number answers the number whose bytes, the lowest first, b are.
func Number(b []byte) (uint64, api.Errno) {
	if len(b) == 0 {
		return 0, api.ErrShort
	}
	if len(b) > 8 {
		return 0, api.ErrLong
	}
	var n uint64
	for i := range len(b) {
		n |= uint64(b[i]) << (8 * i)
	}
	return n, api.OK
}

// High answers n's bytes of that width, the higher first.
func High(n uint64, width int) ([]byte, api.Errno) {
	b, e := Bytes(n, width)
	slices.Reverse(b)
	return b, e
}

// hasBytes tells whether there is such a width of bytes, and n has room in it.
func hasBytes(n uint64, width int) bool {
	return width >= 1 && width <= 8 && hasRoom(n, 8*width)
}

// hasRoom tells whether n has room in width bits, width being from 1 to 64.
func hasRoom(n uint64, width int) bool {
	// A shift by all 64 places leaves 0, so that every number has room there.
	return n>>width == 0
}

// Fold answers 0, 1, 2, 3, 4 .. of 0, -1, 1, -2, 2 ...
func Fold(n int64) uint64 {
	// A signed shift by 63 spreads the sign: all bits of what is below 0 are turned over.
	return uint64(n<<1) ^ uint64(n>>63)
}

// Unfold answers the number whose fold n is.
func Unfold(n uint64) int64 {
	return int64(n>>1) ^ -int64(n&1)
}

// Turn answers n with its bits turned by so many places upwards.
func Turn(n uint32, by int) uint32 {
	// The lowest five bits of a count are the count modulo 32, of one below 0 too.
	up := uint32(by) & 31
	return n<<up | n>>(32-up)
}

// Width answers how many bits n has.
func Width(n uint64) int {
	width := 0
	for i := range 64 {
		if n>>i != 0 {
			width = i + 1
		}
	}
	return width
}

// Field answers the width bits of n from bit at on.
func Field(n uint64, at, width int) (uint64, api.Errno) {
	if !isField(at, width) {
		return 0, api.ErrRange
	}
	return n >> at & ones(width), api.OK
}

// With answers n with v in the width bits from bit at on.
func With(n uint64, at, width int, v uint64) (uint64, api.Errno) {
	if !isField(at, width) || !hasRoom(v, width) {
		return 0, api.ErrRange
	}
	return n&^(ones(width)<<at) | v<<at, api.OK
}

// isField tells whether a number of 64 bits has width bits from bit at on.
func isField(at, width int) bool {
	// Nothing is added to width, which may be as great as an int can be.
	return at >= 0 && at <= 63 && width >= 1 && width <= 64-at
}

// ones answers the number whose lowest width bits are set, width being from 1 to 64.
func ones(width int) uint64 {
	return ^uint64(0) >> (64 - width)
}
