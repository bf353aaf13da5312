package size

import (
	"penstock/api"
	"penstock/rows"
	"penstock/wire"
)

// counter is how many bytes a message has so far: a sink of the rows, and of what values have. What is nested in it is counted by a closure that is handed a counter of its own.
type counter struct{ n int }

func counted(what func(*counter)) int {
	var c counter
	what(&c)
	return c.n
}

// Number is there, even if it is 0.
func (c *counter) Number(num int, w api.Wire, n uint64) {
	c.n += wire.Size(api.Field{Num: num, Wire: w, N: n})
}

// Bytes is there, even if it is empty.
func (c *counter) Bytes(num int, s string) {
	c.bytes(num, len(s))
}

// Inner is what is nested; if it has no bytes, it is there only where it is so always.
func (c *counter) Inner(num int, always bool, what func(rows.Sink)) {
	if n := counted(func(c *counter) { what(c) }); always || n > 0 {
		c.bytes(num, n)
	}
}

// Bare is a number of a packed list.
func (c *counter) Bare(w api.Wire, n uint64) {
	if w == api.WireEight {
		c.n += 8
		return
	}
	c.n += len(wire.Num(n))
}

// Pair is there always.
func (c *counter) Pair(num int, p api.Pair) {
	c.always(num, func(c *counter) { c.pair(p) })
}

// Value is there always.
func (c *counter) Value(num int, v api.Value) {
	c.always(num, func(c *counter) { c.value(v) })
}

// always is a message that is there, even if it has no bytes.
func (c *counter) always(num int, what func(*counter)) {
	c.bytes(num, counted(what))
}

// bytes counts what is ahead of so many bytes as a varint of their number, since both begin alike.
func (c *counter) bytes(num, size int) {
	c.Number(num, api.WireVarint, uint64(size))
	c.n += size
}
