package trace

import (
	"math"

	"penstock/api"
	"penstock/fail"
	"penstock/message"
	"penstock/rows"
	"penstock/value"
)

// WriteReply is the message of what a backend replies.
func WriteReply(p api.Partial) (string, api.Errno) {
	s := ""
	why := fail.Caught(func() {
		fail.Unless(p.Rejected >= 0, api.ErrRange)
		checkText(p.Message)
		s = message.Written(func(r rows.Row) {
			r.Some(1, func(r rows.Row) {
				r.Varint(1, uint64(p.Rejected))
				r.Text(2, p.Message)
			})
		})
	})
	return s, why
}

// ReadReply is what the reply s says.
func ReadReply(s string) (api.Partial, api.Errno) {
	p := api.Partial{}
	why := fail.Caught(func() {
		r := message.Read(s).Inner(1)
		rejected, text := r.Varint(1), r.Bytes(2)
		fail.Unless(rejected <= math.MaxInt64, api.ErrRange)
		checkText(text)
		p = api.Partial{Rejected: int64(rejected), Message: text}
	})
	return p, why
}

// checkText goes by value.Check: the document says the same of a key and of a text.
func checkText(s string) {
	fail.On(value.Check(api.Value{Kind: api.KindText, S: s}))
}
