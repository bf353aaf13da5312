package segment

import (
	"iter"

	"penstock/api"
)

// How many bytes the parts of a frame have that stand ahead of the record's own.
const (
	lengthSize = 4
	numberSize = 8
	sumSize    = 4
	headSize   = lengthSize + numberSize + sumSize
)

// nibbles is what four bits that go out leave in a checksum: what the polynomial EDB88320 makes of the numbers from 0 to 15.
var nibbles = [16]uint32{
	0x00000000, 0x1db71064, 0x3b6e20c8, 0x26d930ac, 0x76dc4190, 0x6b6b51f4, 0x4db26158, 0x5005713c,
	0xedb88320, 0xf00f9344, 0xd6d6a3e8, 0xcb61b38c, 0x9b64c2b0, 0x86d3d2d4, 0xa00ae278, 0xbdbdf21c,
}

// frame is the bytes of a record.
func frame(r api.Record) string {
	b := make([]byte, headSize+len(r.Data))
	copy(b, head(r))
	copy(b[headSize:], r.Data)
	return string(b)
}

// head is the part of a frame that stands ahead of the record's bytes.
func head(r api.Record) string {
	b := make([]byte, headSize)
	length, seq := little(uint64(len(r.Data)), lengthSize), little(r.Seq, numberSize)
	sum := checksum(length, seq, r.Data)
	copy(b, length)
	copy(b[lengthSize:], seq)
	copy(b[lengthSize+numberSize:], little(uint64(sum), sumSize))
	return string(b)
}

// little is so many bytes of n, the lowest one first.
func little(n uint64, size int) string {
	b := make([]byte, size)
	for i := range size {
		b[i] = byte(n >> (8 * i))
	}
	return string(b)
}

// whole is the number that the bytes are, the lowest one first.
func whole(s string) uint64 {
	n := uint64(0)
	for i := range len(s) {
		n |= uint64(s[i]) << (8 * i)
	}
	return n
}

// checksum is that of the parts, one behind the other.
func checksum(parts ...string) uint32 {
	sum := ^uint32(0)
	for _, s := range parts {
		for i := range len(s) {
			sum ^= uint32(s[i])
			for range 2 {
				sum = sum>>4 ^ nibbles[sum&15]
			}
		}
	}
	return ^sum
}

// frames yields the records with whose frames s begins, the numbers being in a row from next on.
func frames(s string, next uint64) iter.Seq[api.Record] {
	return func(yield func(api.Record) bool) {
		left, seq := s, next // so that it may be gone through once more
		for r, is := first(left, seq); is && yield(r); r, is = first(left, seq) {
			left = left[headSize+len(r.Data):]
			seq++
		}
	}
}

// first is the record with whose frame s begins, if there is one of that number.
func first(s string, next uint64) (api.Record, bool) {
	if len(s) < headSize || next >= mostNumber {
		return api.Record{}, false
	}
	size := whole(s[:lengthSize])
	if size > api.MaxBytes || size > uint64(len(s)-headSize) {
		return api.Record{}, false
	}
	r := api.Record{Seq: next, Data: s[headSize : headSize+int(size)]}
	if head(r) != s[:headSize] {
		return api.Record{}, false
	}
	return r, true
}
