package message

import (
	"slices"

	"penstock/api"
	"penstock/fail"
	"penstock/value"
	"penstock/wire"
)

// eightSize is how many bytes an eight has.
const eightSize = 8

// Reader is the fields of a message. Its methods panic with an error's number, so that none of them has to hand one on.
type Reader struct{ fields []api.Field }

// Read is the message s.
func Read(s string) Reader {
	l, why := wire.Read(s)
	fail.On(why)
	return Reader{l}
}

// Of is the fields of that number, of whatever wire, in order.
func (r Reader) Of(num int) []api.Field {
	var out []api.Field
	for _, f := range r.fields {
		if f.Num == num {
			out = append(out, f)
		}
	}
	return out
}

// Last is the last field of that wire and of one of these numbers, if there is one.
func (r Reader) Last(w api.Wire, nums ...int) (api.Field, bool) {
	for _, f := range slices.Backward(r.fields) {
		if f.Wire == w && slices.Contains(nums, f.Num) {
			return f, true
		}
	}
	return api.Field{}, false
}

// Varint is 0, if there is none.
func (r Reader) Varint(num int) uint64 {
	f, _ := r.Last(api.WireVarint, num)
	return f.N
}

// Eight is 0, if there is none.
func (r Reader) Eight(num int) uint64 {
	f, _ := r.Last(api.WireEight, num)
	return f.N
}

// Bytes is empty, if there is none.
func (r Reader) Bytes(num int) string {
	f, _ := r.Last(api.WireBytes, num)
	return f.S
}

// Inner is the message in the last field of that number; one without fields, if there is none.
func (r Reader) Inner(num int) Reader {
	return Read(r.Bytes(num))
}

// All is what the fields of bytes have that are of that number.
func (r Reader) All(num int) []string {
	var out []string
	for _, f := range wire.All(r.fields, num, api.WireBytes) {
		out = append(out, f.S)
	}
	return out
}

// Pairs keeps the last value of a key at the first one's place, as value.Put has it, which would copy all pairs for each.
func (r Reader) Pairs(num int) []api.Pair {
	var out []api.Pair
	place := map[string]int{}
	for _, s := range r.All(num) {
		p, why := value.ReadPair(s)
		fail.On(why)
		i, is := place[p.Key]
		if is {
			out[i] = p
			continue
		}
		place[p.Key] = len(out)
		out = append(out, p)
	}
	return out
}

// Bare is the number of that wire with which a packed list begins, and how many bytes it has.
func Bare(s string, w api.Wire) (uint64, int) {
	if w == api.WireVarint {
		n, size, why := wire.ReadNum(s)
		fail.On(why)
		return n, size
	}
	fail.Unless(len(s) >= eightSize, api.ErrWire)
	var n uint64
	for i := range eightSize {
		n |= uint64(s[i]) << (8 * i)
	}
	return n, eightSize
}
