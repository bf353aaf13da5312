// Package wire has messages as bytes: see ../../shared/DOC.md and doc/01-wire.md.
package wire

import "penstock/api"

// Write is the message of l.
func Write(l []api.Field) (string, api.Errno) {
	if len(l) > api.MaxFields {
		return "", api.ErrMany
	}
	size := 0
	for _, f := range l {
		if !mayBe(f) {
			return "", api.ErrRange
		}
		size += Size(f)
	}
	if size > api.MaxBytes {
		return "", api.ErrLong
	}
	b := make([]byte, 0, size)
	for _, f := range l {
		b = appendField(b, f)
	}
	return string(b), api.OK
}

// Read is the fields of the message s.
func Read(s string) ([]api.Field, api.Errno) {
	if len(s) > api.MaxBytes {
		return nil, api.ErrLong
	}
	l, why := fields(s)
	if why != api.OK {
		return nil, why
	}
	if len(l) > api.MaxFields {
		return nil, api.ErrMany
	}
	return l, api.OK
}

// Size is how many bytes f has, written; 0, if it may not be.
func Size(f api.Field) int {
	if !mayBe(f) {
		return 0
	}
	n := numSize(key(f))
	switch f.Wire {
	case api.WireVarint:
		n += numSize(f.N)
	case api.WireEight:
		n += 8
	case api.WireFour:
		n += 4
	case api.WireBytes:
		n += numSize(uint64(len(f.S))) + len(f.S)
	}
	return n
}

// Last is the last field of l of that number and wire, if there is one.
func Last(l []api.Field, num int, w api.Wire) (api.Field, bool) {
	for i := len(l) - 1; i >= 0; i-- {
		if l[i].Num == num && l[i].Wire == w {
			return l[i], true
		}
	}
	return api.Field{}, false
}

// All is the fields of l of that number and wire, in order.
func All(l []api.Field, num int, w api.Wire) []api.Field {
	var out []api.Field
	for _, f := range l {
		if f.Num == num && f.Wire == w {
			out = append(out, f)
		}
	}
	return out
}

func mayBe(f api.Field) bool {
	if f.Num < 1 || f.Num > api.MaxNum {
		return false
	}
	switch f.Wire {
	case api.WireVarint, api.WireEight:
		return f.S == ""
	case api.WireFour:
		return f.S == "" && f.N < 1<<32
	case api.WireBytes:
		return f.N == 0 && len(f.S) <= api.MaxBytes
	}
	return false
}

// key is the number that tells a field's number and wire.
func key(f api.Field) uint64 {
	return 8*uint64(f.Num) + uint64(f.Wire)
}

func appendField(b []byte, f api.Field) []byte {
	b = appendNum(b, key(f))
	switch f.Wire {
	case api.WireVarint:
		b = appendNum(b, f.N)
	case api.WireEight:
		b = appendFixed(b, f.N, 8)
	case api.WireFour:
		b = appendFixed(b, f.N, 4)
	case api.WireBytes:
		b = appendNum(b, uint64(len(f.S)))
		b = append(b, f.S...)
	}
	return b
}

func appendFixed(b []byte, n uint64, size int) []byte {
	for i := range size {
		b = append(b, byte(n>>(8*i)))
	}
	return b
}
