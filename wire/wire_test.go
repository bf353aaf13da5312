package wire_test

import (
	"math"
	"math/rand/v2"
	"runtime"
	"slices"
	"strings"
	"testing"

	"penstock/api"
	"penstock/wire"
)

func whole(num int, n uint64) api.Field { return api.Field{Num: num, Wire: api.WireVarint, N: n} }
func eight(num int, n uint64) api.Field { return api.Field{Num: num, Wire: api.WireEight, N: n} }
func four(num int, n uint64) api.Field  { return api.Field{Num: num, Wire: api.WireFour, N: n} }
func bytes(num int, s string) api.Field { return api.Field{Num: num, Wire: api.WireBytes, S: s} }

// written is a field, how it stands in a message.
func written() map[string]api.Field {
	long := strings.Repeat("x", 128)
	return map[string]api.Field{
		"\x08\x00":     whole(1, 0),
		"\x08\x96\x01": whole(1, 150),
		"\x78\x7f":     whole(15, 127),
		"\x80\x01\x01": whole(16, 1),
		"\x10\xff\xff\xff\xff\xff\xff\xff\xff\xff\x01": whole(2, math.MaxUint64),
		"\xf8\xff\xff\xff\x0f\x05":                     whole(api.MaxNum, 5),
		"\x09\x08\x07\x06\x05\x04\x03\x02\x01":         eight(1, 0x0102030405060708),
		"\x81\x01\xff\xff\xff\xff\xff\xff\xff\xff":     eight(16, math.MaxUint64),
		"\x19\x00\x00\x00\x00\x00\x00\x00\x80":         eight(3, 1<<63),
		"\x0d\x04\x03\x02\x01":                         four(1, 0x01020304),
		"\x1d\xff\xff\xff\xff":                         four(3, 1<<32-1),
		"\xfd\xff\xff\xff\x0f\x00\x00\x00\x00":         four(api.MaxNum, 0),
		"\x0a\x00":                                     bytes(1, ""),
		"\x12\x02hi":                                   bytes(2, "hi"),
		"\x0a\x03\x00\x80\xff":                         bytes(1, "\x00\x80\xff"),
		"\x0a\x7f" + long[:127]:                        bytes(1, long[:127]),
		"\x0a\x80\x01" + long:                          bytes(1, long),
		"\xfa\xff\xff\xff\x0f\x01z":                    bytes(api.MaxNum, "z"),
	}
}

// unfit is fields that may not be.
func unfit() []api.Field {
	l := []api.Field{
		{Wire: api.WireVarint, S: "x", Num: 1},
		{Wire: api.WireEight, S: "x", Num: 1},
		{Wire: api.WireFour, S: "x", Num: 1},
		{Wire: api.WireFour, N: 1 << 32, Num: 1},
		{Wire: api.WireFour, N: math.MaxUint64, Num: 1},
		{Wire: api.WireBytes, N: 1, Num: 1},
		{Wire: api.WireBytes, N: 1, S: "x", Num: 1},
		{Wire: api.WireBytes, S: strings.Repeat("x", api.MaxBytes+1), Num: 1},
	}
	for _, num := range []int{0, -1, api.MaxNum + 1, math.MinInt, math.MaxInt, 1 << 61, 1<<61 + 1, 1 << 32} {
		for _, w := range []api.Wire{api.WireVarint, api.WireEight, api.WireFour, api.WireBytes} {
			l = append(l, api.Field{Num: num, Wire: w})
		}
	}
	for _, w := range []api.Wire{3, 4, 6, 7, 8, 10, 255} {
		l = append(l, api.Field{Num: 1, Wire: w})
	}
	return l
}

func checkWrite(t *testing.T, name string, l []api.Field, want string, wantWhy api.Errno) {
	t.Helper()
	if s, why := wire.Write(l); s != want || why != wantWhy {
		t.Errorf("Write of %s: %d bytes, error %d, want %d bytes, error %d", name, len(s), why, len(want), wantWhy)
	}
}

func checkRead(t *testing.T, s string, want []api.Field, wantWhy api.Errno) {
	t.Helper()
	l, why := wire.Read(s)
	if !slices.Equal(l, want) || why != wantWhy {
		t.Errorf("Read(%.40x): %d fields, error %d, want %d fields, error %d", s, len(l), why, len(want), wantWhy)
	}
}

func TestP12FieldsAsBytes(t *testing.T) {
	for s, f := range written() {
		checkWrite(t, s, []api.Field{f}, s, api.OK)
		checkRead(t, s, []api.Field{f}, api.OK)
	}
	checkWrite(t, "nil", nil, "", api.OK)
	checkWrite(t, "none", []api.Field{}, "", api.OK)
	checkRead(t, "", nil, api.OK)
}

func TestP12WriteErrors(t *testing.T) {
	for _, f := range unfit() {
		checkWrite(t, "what may not be", []api.Field{f}, "", api.ErrRange)
		checkWrite(t, "what may not be, first", []api.Field{f, whole(1, 1)}, "", api.ErrRange)
		checkWrite(t, "what may not be, last", []api.Field{whole(1, 1), f}, "", api.ErrRange)
	}
	most := slices.Repeat([]api.Field{whole(1, 1)}, api.MaxFields)
	checkWrite(t, "MaxFields", most, strings.Repeat("\x08\x01", api.MaxFields), api.OK)
	checkWrite(t, "MaxFields + 1", append(most, whole(1, 1)), "", api.ErrMany)
	checkWrite(t, "MaxFields + 1, one that may not be", append(most, api.Field{}), "", api.ErrMany)
	checkWrite(t, "MaxFields + 1, too long", slices.Repeat([]api.Field{bytes(1, strings.Repeat("x", 100))}, api.MaxFields+1), "", api.ErrMany)
}

func TestP12WriteLong(t *testing.T) {
	room := strings.Repeat("x", api.MaxBytes-4) // beside the key and a length of three bytes
	checkWrite(t, "MaxBytes", []api.Field{bytes(1, room)}, "\x0a\xfc\xff\x03"+room, api.OK)
	checkWrite(t, "MaxBytes + 1", []api.Field{bytes(1, room+"x")}, "", api.ErrLong)
	checkWrite(t, "bytes of MaxBytes", []api.Field{bytes(1, room+"xxxx")}, "", api.ErrLong)
	checkWrite(t, "two, together MaxBytes", []api.Field{whole(1, 1), bytes(1, room[2:])}, "\x08\x01\x0a\xfa\xff\x03"+room[2:], api.OK)
	checkWrite(t, "two, together MaxBytes + 1", []api.Field{whole(1, 1), bytes(1, room[1:])}, "", api.ErrLong)
	checkWrite(t, "two, together MaxBytes + 1, the short one last", []api.Field{bytes(1, room[1:]), whole(1, 1)}, "", api.ErrLong)
	checkWrite(t, "too long, the last one may not be", []api.Field{bytes(1, room), bytes(1, room), {}}, "", api.ErrRange)
	checkWrite(t, "eights", slices.Repeat([]api.Field{eight(16, 1)}, api.MaxFields), strings.Repeat("\x81\x01\x01\x00\x00\x00\x00\x00\x00\x00", api.MaxFields), api.OK)
	checkWrite(t, "as many as may be, very long", slices.Repeat([]api.Field{bytes(1, room+"xxxx")}, api.MaxFields), "", api.ErrLong)
}

func TestP12ReadErrors(t *testing.T) {
	endless := strings.Repeat("\xff", 10)
	for s, want := range map[string]api.Errno{
		// the key
		"\x80": api.ErrVarint, endless: api.ErrVarint, "\x88\x80": api.ErrVarint,
		"\x00": api.ErrWire, "\x00\x01": api.ErrWire, "\x01": api.ErrWire, "\x02\x00": api.ErrWire, "\x05\x00\x00\x00\x00": api.ErrWire, "\x80\x00\x00": api.ErrWire,
		"\x80\x80\x80\x80\x10\x00": api.ErrWire, "\x82\x80\x80\x80\x10\x00": api.ErrWire, "\x88\x80\x80\x80\x10\x00": api.ErrWire,
		"\x88\x80\x80\x80\x80\x80\x80\x80\x80\x01\x00": api.ErrWire, "\xff\xff\xff\xff\xff\xff\xff\xff\xff\x01": api.ErrWire,
		"\x0b": api.ErrWire, "\x0c": api.ErrWire, "\x0e": api.ErrWire, "\x0f": api.ErrWire, "\x0b\x00\x00\x00\x00\x00\x00\x00\x00": api.ErrWire,
		// what stands behind it
		"\x08": api.ErrVarint, "\x08\x80": api.ErrVarint, "\x08" + endless: api.ErrVarint, "\x08\xff\xff\xff\xff\xff\xff\xff\xff\xff\x02": api.ErrVarint,
		"\x09": api.ErrWire, "\x09\x01": api.ErrWire, "\x09\x01\x02\x03\x04\x05\x06\x07": api.ErrWire,
		"\x0d": api.ErrWire, "\x0d\x01\x02\x03": api.ErrWire,
		"\x0a": api.ErrVarint, "\x0a\x80": api.ErrVarint, "\x0a" + endless: api.ErrVarint,
		"\x0a\x01": api.ErrWire, "\x0a\x05abcd": api.ErrWire, "\x0a\xff\xff\xff\xff\xff\xff\xff\xff\xff\x01": api.ErrWire, "\x0a\xff\xff\xff\xff\xff\xff\xff\xff\x7f": api.ErrWire, "\x0a\x80\x80\x80\x80\x80\x80\x80\x80\x80\x01": api.ErrWire, "\x0a\x80\x80\x80\x80\x10a": api.ErrWire,
		// from the left
		"\x08\x01\x0f": api.ErrWire, "\x08\x01\x80": api.ErrVarint, "\x0f\x08\x80": api.ErrWire, "\x08" + endless + "\x0f": api.ErrVarint, "\x00\x80": api.ErrWire, "\x07\x80": api.ErrWire,
	} {
		checkRead(t, s, nil, want)
	}
}

func TestP12ReadLets(t *testing.T) {
	for s, want := range map[string]api.Field{ // varints with more bytes than are needed
		"\x88\x00\x01":                                 whole(1, 1),
		"\x88\x80\x80\x00\x01":                         whole(1, 1),
		"\x08\x81\x80\x00":                             whole(1, 1),
		"\x0a\x82\x00hi":                               bytes(1, "hi"),
		"\x8d\x00\x01\x00\x00\x00":                     four(1, 1),
		"\xf8\xff\xff\xff\x8f\x80\x80\x80\x80\x00\x00": whole(api.MaxNum, 0),
	} {
		checkRead(t, s, []api.Field{want}, api.OK)
	}
	checkRead(t, "\x10\x01\x08\x02\x10\x01\x0a\x00", []api.Field{whole(2, 1), whole(1, 2), whole(2, 1), bytes(1, "")}, api.OK)
}

func TestP12ReadMany(t *testing.T) {
	most := strings.Repeat("\x08\x01", api.MaxFields)
	checkRead(t, most, slices.Repeat([]api.Field{whole(1, 1)}, api.MaxFields), api.OK)
	checkRead(t, most+"\x08\x01", nil, api.ErrMany)
	checkRead(t, most+most, nil, api.ErrMany)
	checkRead(t, most+"\x0f", nil, api.ErrWire)
	checkRead(t, most+"\x08\x01\x0f", nil, api.ErrWire)
	checkRead(t, most+most+"\x08\x80", nil, api.ErrVarint)
	checkRead(t, most+most+"\x0a\x01", nil, api.ErrWire)
}

func TestP12ReadLong(t *testing.T) {
	room := strings.Repeat("x", api.MaxBytes-4)
	checkRead(t, "\x0a\xfc\xff\x03"+room, []api.Field{bytes(1, room)}, api.OK)
	checkRead(t, "\x0a\xfd\xff\x03"+room+"x", nil, api.ErrLong)
	checkRead(t, strings.Repeat("\x0f", api.MaxBytes), nil, api.ErrWire)
	checkRead(t, strings.Repeat("\x0f", api.MaxBytes+1), nil, api.ErrLong)
	checkRead(t, strings.Repeat("\x80", api.MaxBytes+1), nil, api.ErrLong)
	checkRead(t, strings.Repeat("\x08\x01", api.MaxBytes), nil, api.ErrLong)
}

func TestP13Size(t *testing.T) {
	for s, f := range written() {
		if n := wire.Size(f); n != len(s) {
			t.Errorf("Size of %x: %d", s, n)
		}
	}
	for _, f := range unfit() {
		if n := wire.Size(f); n != 0 {
			t.Errorf("Size of what may not be (%d, %d, %d, %d bytes): %d", f.Num, f.Wire, f.N, len(f.S), n)
		}
	}
	for size, want := range map[int]int{16383: 16386, 16384: 16388, api.MaxBytes: api.MaxBytes + 4} { // one alone may be longer than a message
		if n := wire.Size(bytes(1, strings.Repeat("x", size))); n != want {
			t.Errorf("Size of %d bytes: %d, want %d", size, n, want)
		}
	}
	for num, want := range map[int]int{15: 2, 16: 3, 1<<11 - 1: 3, 1 << 11: 4, 1<<18 - 1: 4, 1 << 18: 5, 1<<25 - 1: 5, 1 << 25: 6, api.MaxNum: 6} {
		if n := wire.Size(whole(num, 0)); n != want {
			t.Errorf("Size of number %d: %d, want %d", num, n, want)
		}
	}
}

func TestP13LastAndAll(t *testing.T) {
	l := []api.Field{whole(1, 1), bytes(1, "a"), whole(2, 2), whole(1, 3), eight(1, 4), bytes(1, ""), four(1, 5), bytes(2, "b"), whole(1, 0), whole(2, 2)}
	for _, x := range []struct {
		num  int
		wire api.Wire
		want []api.Field
	}{
		{1, api.WireVarint, []api.Field{whole(1, 1), whole(1, 3), whole(1, 0)}},
		{2, api.WireVarint, []api.Field{whole(2, 2), whole(2, 2)}},
		{1, api.WireBytes, []api.Field{bytes(1, "a"), bytes(1, "")}},
		{2, api.WireBytes, []api.Field{bytes(2, "b")}},
		{1, api.WireEight, []api.Field{eight(1, 4)}},
		{1, api.WireFour, []api.Field{four(1, 5)}},
		{2, api.WireEight, nil},
		{3, api.WireVarint, nil},
		{0, api.WireVarint, nil},
		{-1, api.WireBytes, nil},
		{1, 3, nil},
	} {
		if got := wire.All(l, x.num, x.wire); !slices.Equal(got, x.want) {
			t.Errorf("All of %d, %d: %v", x.num, x.wire, got)
		}
		want := api.Field{}
		if len(x.want) > 0 {
			want = x.want[len(x.want)-1]
		}
		if got, is := wire.Last(l, x.num, x.wire); got != want || is != (len(x.want) > 0) {
			t.Errorf("Last of %d, %d: %v, %v", x.num, x.wire, got, is)
		}
	}
	if f, is := wire.Last(nil, 1, 0); f != (api.Field{}) || is || len(wire.All(nil, 1, 0)) != 0 {
		t.Error("Last or All of none")
	}
	if f, is := wire.Last([]api.Field{{Num: 1}}, 1, api.WireVarint); f != (api.Field{Num: 1}) || !is {
		t.Error("Last of one that is 0:", f, is)
	}
}

func TestP14NewMemory(t *testing.T) {
	room := make([]api.Field, 0, 16)
	l := append(room, whole(1, 1), whole(1, 2), bytes(1, "a"), whole(1, 3))
	before := slices.Clone(l[:cap(l)])
	first, second := wire.All(l, 1, api.WireVarint), wire.All(l, 1, api.WireVarint)
	s, _ := wire.Write(l)
	wire.Last(l, 1, api.WireVarint)
	one, _ := wire.Read(s)
	two, _ := wire.Read(s)
	for _, x := range [][]api.Field{first, one} {
		for i := range x {
			x[i] = bytes(9, "other")
		}
		_ = append(x[:1], bytes(8, "behind"))
		_ = append(x, bytes(7, "behind"))
	}
	if !slices.Equal(l[:cap(l)], before) {
		t.Error("what was handed in is changed:", l)
	}
	if !slices.Equal(second, []api.Field{whole(1, 1), whole(1, 2), whole(1, 3)}) {
		t.Error("two answers of All share memory:", second)
	}
	if !slices.Equal(two, before[:4]) {
		t.Error("two answers of Read share memory:", two)
	}
	for i := range l {
		l[i] = api.Field{}
	}
	if !slices.Equal(second, []api.Field{whole(1, 1), whole(1, 2), whole(1, 3)}) || s != "\x08\x01\x08\x02\x0a\x01a\x08\x03" {
		t.Error("what was handed in is kept:", second)
	}
}

// someField is any field that may be, with edges among the numbers.
func someField(r *rand.Rand) api.Field {
	num := 1 + r.IntN(api.MaxNum)>>r.IntN(29)
	n := r.Uint64() >> r.IntN(64)
	switch r.IntN(4) {
	case 0:
		return whole(num, n)
	case 1:
		return eight(num, n)
	case 2:
		return four(num, n%(1<<32))
	}
	b := make([]byte, r.IntN(200)>>r.IntN(8))
	for i := range b {
		b[i] = byte(r.Uint32())
	}
	return bytes(num, string(b))
}

func someFields(r *rand.Rand) []api.Field {
	var l []api.Field
	for range r.IntN(20) {
		l = append(l, someField(r))
	}
	return l
}

func TestP15ThereAndBack(t *testing.T) {
	r := rand.New(rand.NewPCG(1, 5))
	for range 2000 {
		l := someFields(r)
		s, why := wire.Write(l)
		if why != api.OK {
			t.Fatal("Write: error", why)
		}
		checkRead(t, s, l, api.OK)
	}
}

func TestP16InParts(t *testing.T) {
	r := rand.New(rand.NewPCG(1, 6))
	for range 1000 {
		a, b := someFields(r), someFields(r)
		first, _ := wire.Write(a)
		second, _ := wire.Write(b)
		both := append(slices.Clone(a), b...)
		checkWrite(t, "two messages", both, first+second, api.OK)
		checkRead(t, first+second, both, api.OK)
	}
}

func TestP17Sizes(t *testing.T) {
	r := rand.New(rand.NewPCG(1, 7))
	for range 1000 {
		l := someFields(r)
		s, _ := wire.Write(l)
		n := 0
		for _, f := range l {
			n += wire.Size(f)
		}
		if len(s) != n {
			t.Errorf("Write has %d bytes, Sizes together are %d", len(s), n)
		}
	}
}

// model reads a message by places instead of what is left.
func model(s string) ([]api.Field, api.Errno) {
	if len(s) > api.MaxBytes {
		return nil, api.ErrLong
	}
	var l []api.Field
	at := 0
	num := func() (uint64, bool) {
		var n uint64
		for i := 0; i < 10 && at+i < len(s); i++ {
			b := uint64(s[at+i])
			if i == 9 && b > 1 {
				return 0, false
			}
			n += b & 127 << (7 * i)
			if b < 128 {
				at += i + 1
				return n, true
			}
		}
		return 0, false
	}
	for at < len(s) {
		key, is := num()
		if !is {
			return nil, api.ErrVarint
		}
		f := api.Field{Num: int(key >> 3), Wire: api.Wire(key & 7)}
		if key>>3 == 0 || key>>3 > api.MaxNum || key&7 > 5 || key&7 == 3 || key&7 == 4 {
			return nil, api.ErrWire
		}
		size := map[api.Wire]uint64{api.WireEight: 8, api.WireFour: 4}[f.Wire]
		if f.Wire == api.WireVarint || f.Wire == api.WireBytes {
			n, is := num()
			if !is {
				return nil, api.ErrVarint
			}
			f.N = n
		}
		if f.Wire == api.WireBytes {
			size, f.N = f.N, 0
		}
		if size > uint64(len(s)-at) {
			return nil, api.ErrWire
		}
		part := s[at : at+int(size)]
		at += int(size)
		if f.Wire == api.WireBytes {
			f.S = part
		}
		for i := len(part) - 1; i >= 0 && f.Wire != api.WireBytes; i-- {
			f.N = f.N<<8 | uint64(part[i])
		}
		l = append(l, f)
	}
	if len(l) > api.MaxFields {
		return nil, api.ErrMany
	}
	return l, api.OK
}

func TestP1ReadOfAnything(t *testing.T) {
	some := "\x00\x01\x02\x05\x07\x08\x09\x0a\x0d\x0f\x12\x1b\x7f\x80\x81\xff"
	for n := range 1 << 16 {
		s := string([]byte{some[n&15], some[n>>4&15], some[n>>8&15], some[n>>12]})
		for size := range 5 {
			l, why := model(s[:size])
			checkRead(t, s[:size], l, why)
		}
	}
	r := rand.New(rand.NewPCG(1, 1))
	for range 20000 {
		b := make([]byte, r.IntN(30))
		for i := range b {
			b[i] = some[r.IntN(16)]
			if r.IntN(4) == 0 {
				b[i] = byte(r.Uint32())
			}
		}
		l, why := model(string(b))
		checkRead(t, string(b), l, why)
	}
}

func TestP3AndP4AlwaysTheSame(t *testing.T) {
	before := runtime.NumGoroutine()
	l := []api.Field{whole(1, 1), bytes(2, "a"), whole(1, 2)}
	want, _ := wire.Write(l)
	for extra := range 50 {
		s, why := wire.Write(append(make([]api.Field, 0, 3+extra), l...))
		if s != want || why != api.OK {
			t.Fatalf("Write: %x, error %d", s, why)
		}
		checkRead(t, s, l, api.OK)
		checkRead(t, "\x0f"+s, nil, api.ErrWire)
	}
	for range 1000 { // one that is joined may still be on its way out
		if runtime.NumGoroutine() <= before {
			return
		}
		runtime.Gosched()
	}
	t.Errorf("%d goroutines are left", runtime.NumGoroutine()-before)
}
