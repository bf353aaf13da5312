package wire

import (
	"math/bits"

	"penstock/api"
)

const (
	numGroup = 7   // bits of a number in each byte of its varint
	numMore  = 128 // what a byte has more, behind which another one comes
	numMost  = 10  // bytes of the longest varint
)

// Num is the shortest varint of n.
func Num(n uint64) string {
	return string(appendNum(nil, n))
}

// ReadNum is the number with which s begins, and how many bytes its varint has.
func ReadNum(s string) (uint64, int, api.Errno) {
	var n uint64
	for i := range min(len(s), numMost) {
		b := s[i]
		if i == numMost-1 && b > 1 { // only one of the 64 bits is left for it
			break
		}
		n |= uint64(b%numMore) << (numGroup * i)
		if b < numMore {
			return n, i + 1, api.OK
		}
	}
	return 0, 0, api.ErrVarint
}

// Zig is the zigzag of n.
func Zig(n int64) uint64 {
	if n < 0 {
		return 2*uint64(-(n+1)) + 1 // n + 1, since the least number has no opposite
	}
	return 2 * uint64(n)
}

// Zag is the number whose zigzag n is.
func Zag(n uint64) int64 {
	if n%2 == 1 {
		return -int64(n/2) - 1
	}
	return int64(n / 2)
}

func appendNum(b []byte, n uint64) []byte {
	for n >= numMore {
		b = append(b, byte(n%numMore+numMore))
		n /= numMore
	}
	return append(b, byte(n))
}

func numSize(n uint64) int {
	return max(1, (bits.Len64(n)+numGroup-1)/numGroup)
}
