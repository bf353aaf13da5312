package size

import (
	"math"

	"penstock/api"
	"penstock/wire"
)

// counter is how many bytes a message has so far. What is nested in it is counted by a closure that is handed a counter of its own.
type counter struct{ n int }

// varint is a number that is not there, if it is 0.
func (c *counter) varint(num int, n uint64) {
	if n != 0 {
		c.field(num, api.WireVarint, n)
	}
}

// eight is a number that is not there, if it is 0.
func (c *counter) eight(num int, n uint64) {
	if n != 0 {
		c.field(num, api.WireEight, n)
	}
}

// float is not there, if its bits are 0.
func (c *counter) float(num int, f float64) {
	c.eight(num, math.Float64bits(f))
}

// zig is a signed number by its zigzag; it is not there, if it is 0.
func (c *counter) zig(num int, n int32) {
	c.varint(num, wire.Zig(int64(n)))
}

// text is not there, if it is empty.
func (c *counter) text(num int, s string) {
	if s != "" {
		c.bytes(num, len(s))
	}
}

// some is a message that is not there, if it has no bytes; a packed list is so, too.
func (c *counter) some(num int, what func(*counter)) {
	if n := counted(what); n > 0 {
		c.bytes(num, n)
	}
}

// always is a message that is there, even if it has no bytes.
func (c *counter) always(num int, what func(*counter)) {
	c.bytes(num, counted(what))
}

func counted(what func(*counter)) int {
	var c counter
	what(&c)
	return c.n
}

// field is a number that is there, even if it is 0.
func (c *counter) field(num int, w api.Wire, n uint64) {
	c.n += wire.Size(api.Field{Num: num, Wire: w, N: n})
}

// bytes counts what is ahead of so many bytes as a varint of their number, since both begin alike.
func (c *counter) bytes(num, size int) {
	c.field(num, api.WireVarint, uint64(size))
	c.n += size
}
