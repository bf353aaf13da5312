package wire_test

import (
	"math"
	"math/bits"
	"strings"
	"testing"

	"penstock/api"
	"penstock/wire"
)

// edges is numbers at which a varint or a zigzag gets another length or sign.
func edges() []uint64 {
	l := []uint64{0, 1, 2, 150, 300, math.MaxUint64, math.MaxUint64 - 1, 1<<63 - 1, 1 << 63, 1<<63 + 1, 1<<32 - 1, 1 << 32}
	for i := 1; i <= 9; i++ {
		l = append(l, 1<<(7*i)-1, 1<<(7*i), 1<<(7*i)+1)
	}
	return l
}

func TestP11NumIsShortest(t *testing.T) {
	for n, want := range map[uint64]string{
		0:                  "\x00",
		1:                  "\x01",
		127:                "\x7f",
		128:                "\x80\x01",
		150:                "\x96\x01",
		300:                "\xac\x02",
		16383:              "\xff\x7f",
		16384:              "\x80\x80\x01",
		1<<56 - 1:          "\xff\xff\xff\xff\xff\xff\xff\x7f",
		1<<63 - 1:          "\xff\xff\xff\xff\xff\xff\xff\xff\x7f",
		1 << 63:            "\x80\x80\x80\x80\x80\x80\x80\x80\x80\x01",
		math.MaxUint64:     "\xff\xff\xff\xff\xff\xff\xff\xff\xff\x01",
		0x0102030405060708: "\x88\x8e\x98\xa8\xc0\xe0\x80\x81\x01",
	} {
		if s := wire.Num(n); s != want {
			t.Errorf("Num(%d) = %x, want %x", n, s, want)
		}
	}
	for _, n := range edges() {
		if s := wire.Num(n); len(s) != max(1, (bits.Len64(n)+6)/7) {
			t.Errorf("Num(%d) = %x: not the shortest", n, s)
		}
	}
}

func TestP11ReadNum(t *testing.T) {
	for _, n := range edges() {
		s := wire.Num(n)
		for _, behind := range []string{"", "\x00", "\xff\xff", "\x80\x80\x80\x80\x80\x80\x80\x80\x80\x80\x80"} {
			if got, size, why := wire.ReadNum(s + behind); got != n || size != len(s) || why != api.OK {
				t.Errorf("ReadNum(%x) = %d, %d, error %d", s+behind, got, size, why)
			}
		}
	}
	for s, want := range map[string]struct {
		n    uint64
		size int
	}{ // more bytes than are needed
		"\x80\x00":     {0, 2},
		"\x81\x80\x00": {1, 3},
		"\xac\x82\x80\x80\x80\x80\x80\x80\x80\x00": {300, 10},
		"\x80\x80\x80\x80\x80\x80\x80\x80\x80\x00": {0, 10},
		"\xff\x80\x80\x80\x80\x80\x80\x80\x80\x01": {1<<63 + 127, 10},
	} {
		if n, size, why := wire.ReadNum(s); n != want.n || size != want.size || why != api.OK {
			t.Errorf("ReadNum(%x) = %d, %d, error %d, want %d, %d", s, n, size, why, want.n, want.size)
		}
	}
}

func TestP11ReadNumErrors(t *testing.T) {
	nine := strings.Repeat("\x80", 9)
	bad := []string{"", "\x80", "\xff", "\x80\x80", nine, nine + "\x80", nine + "\x80\x00", nine + "\x80\x01", nine + "\x81", nine + "\x02", nine + "\x03", nine + "\x7f", nine + "\xff", nine + "\x02\x00"}
	for size := range 10 {
		bad = append(bad, strings.Repeat("\xff", size), strings.Repeat("\x81", size))
	}
	bad = append(bad, strings.Repeat("\xff", 10), strings.Repeat("\xff", 11)+"\x01", strings.Repeat("\x80", 1000)+"\x00")
	for _, s := range bad {
		if n, size, why := wire.ReadNum(s); n != 0 || size != 0 || why != api.ErrVarint {
			t.Errorf("ReadNum(%x) = %d, %d, error %d", s, n, size, why)
		}
	}
}

func TestP11ZigZag(t *testing.T) {
	for n, want := range map[int64]uint64{0: 0, -1: 1, 1: 2, -2: 3, 2: 4, 150: 300, -150: 299, math.MaxInt32: 1<<32 - 2, math.MinInt32: 1<<32 - 1, math.MaxInt64: math.MaxUint64 - 1, math.MinInt64: math.MaxUint64, math.MinInt64 + 1: math.MaxUint64 - 2} {
		if z := wire.Zig(n); z != want {
			t.Errorf("Zig(%d) = %d, want %d", n, z, want)
		}
		if back := wire.Zag(want); back != n {
			t.Errorf("Zag(%d) = %d, want %d", want, back, n)
		}
	}
	for _, n := range edges() {
		if wire.Zig(wire.Zag(n)) != n || wire.Zag(wire.Zig(int64(n))) != int64(n) {
			t.Errorf("Zig and Zag of %d: not there and back", n)
		}
	}
}
