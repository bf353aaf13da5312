package wire

import "penstock/api"

// reader is what is left of a message. Its methods panic with an error's number, so that none of them has to hand one on.
type reader struct{ left string }

// fields is all of s; what is no message is told by the error.
func fields(s string) (l []api.Field, why api.Errno) {
	defer func() {
		x := recover()
		if x == nil {
			return
		}
		number, is := x.(api.Errno)
		if !is {
			panic(x) // a fault of the program, not of the message
		}
		l, why = nil, number
	}()
	r := reader{s}
	for r.left != "" {
		l = append(l, r.field())
	}
	return l, api.OK
}

func (r *reader) field() api.Field {
	k := r.num()
	num := k / 8
	if num < 1 || num > api.MaxNum {
		panic(api.ErrWire)
	}
	f := api.Field{Num: int(num), Wire: api.Wire(k % 8)}
	switch f.Wire {
	case api.WireVarint:
		f.N = r.num()
	case api.WireEight:
		f.N = r.fixed(8)
	case api.WireFour:
		f.N = r.fixed(4)
	case api.WireBytes:
		f.S = r.take(r.num())
	default:
		panic(api.ErrWire)
	}
	return f
}

func (r *reader) num() uint64 {
	n, size, why := ReadNum(r.left)
	if why != api.OK {
		panic(why)
	}
	r.left = r.left[size:]
	return n
}

// take is the next size bytes; they are counted by a uint64, since a message may name more than an int holds.
func (r *reader) take(size uint64) string {
	if size > uint64(len(r.left)) {
		panic(api.ErrWire)
	}
	s := r.left[:size]
	r.left = r.left[size:]
	return s
}

func (r *reader) fixed(size uint64) uint64 {
	var n uint64
	for i, b := range []byte(r.take(size)) {
		n |= uint64(b) << (8 * i)
	}
	return n
}
