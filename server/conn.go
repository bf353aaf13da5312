package server

import (
	"penstock/api"
	"penstock/http"
	"penstock/otlp"
)

// The statuses that are replied.
const (
	fine        = 200
	badRequest  = 400
	notFound    = 404
	notAllowed  = 405
	timeout     = 408
	tooLarge    = 413
	unsupported = 415
	tooMany     = 429
	unavailable = 503
)

const (
	connection = "Connection"
	closing    = "close"
)

// changed is a connection that is being changed.
type changed struct{ api.Conn }

// cut leaves out the request that is looked at.
func (x *changed) cut(size int, now uint64) {
	x.Buf = x.Buf[size:]
	x.Since = now
}

// look replies to the request, unless that waits for its answer.
func (x *changed) look(r api.Request) (api.Data, api.Next) {
	value, _ := http.Find(r.Heads, connection)
	last := value == closing
	d, status := read(r)
	if status != fine {
		x.reply(status, "", last)
		return api.Data{}, api.NextReply
	}
	x.Busy, x.Last = true, last
	return d, api.NextData
}

func (x *changed) answer(status int, body string, now uint64) {
	last := x.Last
	x.Busy, x.Last = false, false
	x.Since = now
	if status != fine {
		body = ""
	}
	x.reply(status, body, last)
}

// reply is the connection's last one, if it is closed by it.
func (x *changed) reply(status int, body string, last bool) {
	r := api.Response{Status: status, Body: body}
	if status == fine {
		r.Heads = append(r.Heads, api.Head{Name: otlp.ContentType, Value: otlp.Protobuf})
	}
	if last {
		r.Heads = append(r.Heads, api.Head{Name: connection, Value: closing})
	}
	s, _ := http.WriteResponse(r) // which is right, its body being a reply
	x.Out += s
	if last {
		x.end()
	}
}

func (x *changed) end() {
	x.Conn = api.Conn{Out: x.Out, Closed: true, Since: x.Since}
}

// expire tells the client why, if a part of a request is lost.
func (x *changed) expire() {
	if x.Buf != "" {
		x.reply(timeout, "", true)
		return
	}
	x.end()
}

func (x *changed) take() string {
	s := x.Out
	x.Out = ""
	return s
}

// read is the data of the request, or the status that says why it has none.
func read(r api.Request) (api.Data, int) {
	as := otlp.Signal(r.Target)
	if as == api.SignalNone {
		return api.Data{}, notFound
	}
	if r.Method != otlp.Post {
		return api.Data{}, notAllowed
	}
	if value, _ := http.Find(r.Heads, otlp.ContentType); value != otlp.Protobuf {
		return api.Data{}, unsupported
	}
	d, why := otlp.Read(r.Body, as)
	if why != api.OK {
		return api.Data{}, badRequest
	}
	return d, fine
}

// isAnswer tells statuses that a request which waits may be answered.
func isAnswer(status int) bool {
	return status == fine || status == badRequest || status == tooMany || status == unavailable
}
