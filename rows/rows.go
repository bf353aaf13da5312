// Package rows has the table of messages in ../../shared/doc/04-size.md: which fields each message has, in order. It stands here once, for what counts the fields and for what writes them.
package rows

import (
	"math"

	"penstock/api"
	"penstock/wire"
)

// Sink takes the fields of a message, one behind the other. What is nested is told by a closure, which is handed a sink of its own.
type Sink interface {
	Number(num int, w api.Wire, n uint64)        // there, even if it is 0
	Bytes(num int, s string)                     // there, even if it is empty
	Inner(num int, always bool, what func(Sink)) // a message or a packed list; if it has no bytes, it is there only where it is so always
	Bare(w api.Wire, n uint64)                   // a number of a packed list
	Pair(num int, p api.Pair)                    // a pair's message, as value.WritePair has it
	Value(num int, v api.Value)                  // a value's message, as value.Write has it
}

// Row is a message that is told to a sink. Its methods leave out what is zero, where the table does not say always.
type Row struct{ Sink }

// Varint is a number that is not there, if it is 0.
func (r Row) Varint(num int, n uint64) {
	if n != 0 {
		r.Number(num, api.WireVarint, n)
	}
}

// Eight is a number that is not there, if it is 0.
func (r Row) Eight(num int, n uint64) {
	if n != 0 {
		r.Number(num, api.WireEight, n)
	}
}

// Float is not there, if its bits are 0.
func (r Row) Float(num int, f float64) {
	r.Eight(num, math.Float64bits(f))
}

// Zig is a signed number by its zigzag; it is not there, if it is 0.
func (r Row) Zig(num int, n int32) {
	r.Varint(num, wire.Zig(int64(n)))
}

// Text is not there, if it is empty.
func (r Row) Text(num int, s string) {
	if s != "" {
		r.Bytes(num, s)
	}
}

// Pairs are there always, each by itself.
func (r Row) Pairs(num int, l []api.Pair) {
	for _, p := range l {
		r.Pair(num, p)
	}
}

// Some is a message, or a packed list, that is not there, if it has no bytes.
func (r Row) Some(num int, what func(Row)) {
	r.Inner(num, false, func(s Sink) { what(Row{s}) })
}

// Always is a message that is there, even if it has no bytes.
func (r Row) Always(num int, what func(Row)) {
	r.Inner(num, true, func(s Sink) { what(Row{s}) })
}
