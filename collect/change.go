package collect

import (
	"slices"

	"penstock/api"
	"penstock/batch"
	"penstock/export"
	"penstock/fail"
	"penstock/graph"
	"penstock/pdata"
	"penstock/server"
)

// The statuses by which data are answered.
const (
	fine        = 200
	tooMany     = 429
	unavailable = 503
)

// changed is a collector that is being changed at some time, its lists being its own. Its methods panic with an error's number.
type changed struct {
	api.Collector
	rules
	now   uint64
	ahead map[int]step // where data of pipelines go next, as far as it was asked for
}

func begin(c api.Collector, known rules, now uint64) *changed {
	return &changed{own(c), known, now, map[int]step{}}
}

func (x *changed) do(m api.Move) api.Out {
	do, is := map[api.MoveKind]func(api.Move) api.Out{
		api.MoveConnect: x.connect,
		api.MoveFeed:    x.feed,
		api.MoveLook:    x.look,
		api.MoveTake:    x.take,
		api.MoveTick:    x.tick,
		api.MoveSend:    x.send,
		api.MoveReply:   x.reply,
		api.MoveStop:    x.stop,
		api.MoveCrash:   x.crash,
	}[m.Kind]
	fail.Unless(is, api.ErrType)
	return do(m)
}

func (x *changed) connect(m api.Move) api.Out {
	fail.Unless(isReceiver(x.Config, m.Text), api.ErrUnknown)
	fail.Unless(len(x.Lines) < api.MaxComps, api.ErrFull)
	fail.Unless(!x.Stopped, api.ErrState)
	x.Last++
	x.Lines = append(x.Lines, api.Line{Id: x.Last, Receiver: m.Text, Conn: api.Conn{Since: x.now}})
	return api.Out{N: uint64(x.Last)}
}

// line is where the line of that number is.
func (x *changed) line(id int) int {
	at := slices.IndexFunc(x.Lines, func(l api.Line) bool { return l.Id == id })
	fail.Unless(at >= 0, api.ErrUnknown)
	return at
}

func (x *changed) feed(m api.Move) api.Out {
	l := &x.Lines[x.line(m.Line)]
	conn, why := server.Feed(l.Conn, x.Rules, m.Text, x.now)
	fail.On(why)
	l.Conn = conn
	return api.Out{}
}

func (x *changed) look(m api.Move) api.Out {
	l := &x.Lines[x.line(m.Line)]
	conn, d, next, why := server.Look(l.Conn, x.Rules, x.now)
	fail.On(why)
	if next == api.NextData {
		conn, why = server.Answer(conn, x.Rules, x.accept(d, l.Receiver), api.Partial{}, x.now)
		fail.On(why)
	}
	l.Conn = conn
	if next == api.NextNone {
		return api.Out{}
	}
	return api.Out{N: 1}
}

// accept is the status by which d are answered that came to a receiver; if they are accepted, they go their ways.
func (x *changed) accept(d api.Data, receiver string) int {
	n := uint64(pdata.Items(d))
	if x.Stopped {
		x.Refused += n
		return unavailable
	}
	if held(x.Collector)+n > uint64(x.Limit) {
		x.Refused += n
		return tooMany
	}
	x.Accepted += n
	pipes, why := graph.From(x.Config, receiver, d.Signal)
	fail.On(why)
	for _, pipe := range pipes {
		x.pass(d, pipe, 0)
	}
	return fine
}

func (x *changed) take(m api.Move) api.Out {
	at := x.line(m.Line)
	conn, text, why := server.Take(x.Lines[at].Conn, x.Rules)
	fail.On(why)
	x.Lines[at].Conn = conn
	if conn.Closed {
		x.Lines = slices.Delete(x.Lines, at, at+1)
	}
	return api.Out{Text: text}
}

func (x *changed) tick(api.Move) api.Out {
	for i := range x.Lines {
		conn, why := server.Tick(x.Lines[i].Conn, x.Rules, x.now)
		fail.On(why)
		x.Lines[i].Conn = conn
	}
	for i := range x.Slots {
		x.release(i, func(b api.Batch, r api.BatchRules) (api.Batch, []api.Data, api.Errno) {
			return batch.Tick(b, r, x.now)
		})
	}
	return api.Out{}
}

// exporter is that of this number, and its rules.
func (x *changed) exporter(at int) (*api.Exporter, api.ExportRules) {
	fail.Unless(at >= 0 && at < len(x.Exporters), api.ErrRange)
	return &x.Exporters[at], x.exports[at]
}

func (x *changed) send(m api.Move) api.Out {
	e, r := x.exporter(m.Exporter)
	next, seq, request, why := export.Send(*e, r, x.now)
	fail.On(why)
	*e = next
	return api.Out{N: seq, Text: request}
}

func (x *changed) reply(m api.Move) api.Out {
	e, r := x.exporter(m.Exporter)
	next, why := export.Reply(*e, r, m.Seq, m.Status, m.Text, x.now)
	fail.On(why)
	*e = next
	return api.Out{}
}

func (x *changed) stop(api.Move) api.Out {
	x.Stopped = true
	for i := range x.Slots { // what goes comes to slots behind it alone
		x.release(i, batch.Flush)
	}
	return api.Out{}
}

func (x *changed) crash(m api.Move) api.Out {
	x.Lines = nil
	x.Lost += inSlots(x.Collector)
	for i := range x.Slots {
		x.Slots[i].Batch = api.Batch{}
	}
	for i := range x.Exporters {
		var keeps []int
		if i < len(m.Keeps) {
			keeps = m.Keeps[i]
		}
		next, why := export.Crash(x.Exporters[i], x.exports[i], keeps)
		fail.On(why)
		x.Exporters[i] = next
	}
	return api.Out{}
}
