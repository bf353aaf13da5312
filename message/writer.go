// Package message has what trace and metric share of messages: a writer of the document's rows, a reader of fields, and the groups around the records of a request. What is no message panics with an error's number (package fail).
package message

import (
	"penstock/api"
	"penstock/fail"
	"penstock/rows"
	"penstock/value"
	"penstock/wire"
)

// writer is a message's bytes so far: a sink of the rows.
type writer struct{ bytes []byte }

// Written is the bytes of the message that is told.
func Written(what func(rows.Row)) string {
	return written(func(s rows.Sink) { what(rows.Row{Sink: s}) })
}

func written(what func(rows.Sink)) string {
	var w writer
	what(&w)
	return string(w.bytes)
}

// Number is there, even if it is 0.
func (w *writer) Number(num int, how api.Wire, n uint64) {
	w.field(api.Field{Num: num, Wire: how, N: n})
}

// Bytes is there, even if it is empty.
func (w *writer) Bytes(num int, s string) {
	w.field(api.Field{Num: num, Wire: api.WireBytes, S: s})
}

// Inner is what is nested; if it has no bytes, it is there only where it is so always.
func (w *writer) Inner(num int, always bool, what func(rows.Sink)) {
	if s := written(what); always || s != "" {
		w.Bytes(num, s)
	}
}

// Bare is a number of a packed list.
func (w *writer) Bare(how api.Wire, n uint64) {
	if how == api.WireVarint {
		w.bytes = append(w.bytes, wire.Num(n)...)
		return
	}
	for i := range eightSize {
		w.bytes = append(w.bytes, byte(n>>(8*i)))
	}
}

// Pair is there always.
func (w *writer) Pair(num int, p api.Pair) {
	s, why := value.WritePair(p)
	fail.On(why)
	w.Bytes(num, s)
}

// Value is there always.
func (w *writer) Value(num int, v api.Value) {
	s, why := value.Write(v)
	fail.On(why)
	w.Bytes(num, s)
}

func (w *writer) field(f api.Field) {
	s, why := wire.Write([]api.Field{f})
	fail.On(why)
	w.bytes = append(w.bytes, s...)
}
