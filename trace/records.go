package trace

import (
	"math"

	"penstock/api"
	"penstock/fail"
	"penstock/message"
	"penstock/value"
)

// spans is the one span that a record has.
func spans(r message.Reader) []api.Item {
	x := api.Item{
		Trace:  r.Bytes(1),
		Span:   r.Bytes(2),
		Parent: r.Bytes(4),
		Name:   r.Bytes(5),
		Kind:   kind(r.Varint(6)),
		Start:  r.Eight(7),
		Time:   r.Eight(8),
		Attrs:  r.Pairs(9),
	}
	status := r.Inner(15)
	x.Message, x.Code = status.Bytes(2), code(status.Varint(3))
	return []api.Item{x}
}

// logs is the one log record that a record has.
func logs(r message.Reader) []api.Item {
	x := api.Item{
		Time:  r.Eight(1),
		Kind:  kind(r.Varint(2)),
		Name:  r.Bytes(3),
		Attrs: r.Pairs(6),
		Trace: r.Bytes(9),
		Span:  r.Bytes(10),
		Start: r.Eight(11),
	}
	x.Body = body(r.Bytes(5))
	return []api.Item{x}
}

// body is of KindNone, if there is none: a message without bytes says that, too.
func body(s string) api.Value {
	v, why := value.Read(s)
	fail.On(why)
	return v
}

// kind is -1, which is none, for a number that is too great.
func kind(n uint64) int32 {
	if n > math.MaxInt32 {
		return -1
	}
	return int32(n)
}

// code is the greatest one, which is none, for a number that is too great.
func code(n uint64) uint8 {
	return uint8(min(n, math.MaxUint8))
}
