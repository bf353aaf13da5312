package collect_test

import (
	"fmt"
	"math"
	"strings"
	"testing"

	"penstock/api"
	"penstock/server"
)

// with is c with something changed.
func with(c api.Collector, change func(*api.Collector)) api.Collector {
	c = twin(c)
	change(&c)
	return c
}

// lined is a simple collector with these connections, numbered from 1 on.
func lined(l ...api.Conn) api.Collector {
	c := opened(simple(""), 1000)
	c.Last = len(l)
	for i, x := range l {
		c.Lines = append(c.Lines, api.Line{Id: i + 1, Receiver: "r", Conn: x})
	}
	return c
}

// TestP192Kind has kinds that are none, whatever else they have.
func TestP192Kind(t *testing.T) {
	for _, c := range []api.Collector{{}, good(t), with(good(t), func(c *api.Collector) { c.Stopped = true })} {
		for _, kind := range []api.MoveKind{api.MoveNone, api.MoveCount, 11, 255} {
			check(t, fmt.Sprint("Do of kind ", kind), do(c, api.Move{Kind: kind}), stays(c, api.ErrType))
			check(t, fmt.Sprint("Do of kind ", kind), do(c, api.Move{Kind: kind, Now: 5, Line: 1, Text: "r", Seq: 1, Status: 200}), stays(c, api.ErrType))
		}
	}
}

func TestP192Connect(t *testing.T) {
	c := good(t)
	for now, receiver := range map[uint64]string{0: "r", 7: "s", 1 << 62: "s", math.MaxUint64: "r"} {
		x := do(c, connect(now, receiver))
		check(t, "Connect", x, becomes(with(c, func(c *api.Collector) {
			c.Last = 5
			c.Lines = append(c.Lines, api.Line{Id: 5, Receiver: receiver, Conn: api.Conn{Since: now}})
		}), api.Out{N: 5}))
		y := do(x.Collector, connect(now, "r"))
		if y.Out.N != 6 || y.Collector.Last != 6 || len(y.Collector.Lines) != 5 {
			t.Errorf("Connect once more: %+v", y.Out)
		}
	}
	for _, receiver := range []string{"", "x", "R", "c", "e", "a", "logs", "r "} {
		check(t, "Connect to "+receiver, do(c, connect(8, receiver)), stays(c, api.ErrUnknown))
	}
	check(t, "Connect of nothing", do(api.Collector{}, connect(8, "")), stays(api.Collector{}, api.ErrUnknown))
}

// TestP192ConnectMany has as many lines as there may be, one fewer and more.
func TestP192ConnectMany(t *testing.T) {
	c := opened(simple(""), 9)
	for i := range api.MaxComps {
		x := do(c, connect(3, "r"))
		if x.Out != (api.Out{N: uint64(i + 1)}) {
			t.Fatalf("Connect %d: %+v", i, x.Out)
		}
		c = x.Collector
	}
	check(t, "Connect with all lines", do(c, connect(3, "r")), stays(c, api.ErrFull))
	fewer := with(c, func(c *api.Collector) { c.Lines = c.Lines[1:] })
	if x := do(fewer, connect(3, "r")); x.Out != (api.Out{N: 33}) || len(x.Collector.Lines) != 32 || x.Collector.Lines[31].Id != 33 {
		t.Errorf("Connect with one fewer: %+v", x.Out)
	}
	for _, n := range []int{33, 40} {
		more := lined(make([]api.Conn, n)...)
		check(t, "Connect with more lines", do(more, connect(3, "r")), stays(more, api.ErrFull))
	}
}

// TestP192ConnectFirst has several that apply: the first one is told.
func TestP192ConnectFirst(t *testing.T) {
	full := lined(make([]api.Conn, 32)...)
	stopped := with(lined(), func(c *api.Collector) { c.Stopped = true })
	both := with(full, func(c *api.Collector) { c.Stopped = true })
	for _, x := range []struct {
		c    api.Collector
		text string
		want api.Errno
	}{
		{full, "x", api.ErrUnknown}, {stopped, "x", api.ErrUnknown}, {both, "x", api.ErrUnknown},
		{full, "r", api.ErrFull}, {both, "r", api.ErrFull}, {stopped, "r", api.ErrState},
	} {
		check(t, "Connect to "+x.text, do(x.c, connect(1, x.text)), stays(x.c, x.want))
	}
}

// TestP192ConnectLast has the next Id at its edges.
func TestP192ConnectLast(t *testing.T) {
	for last, n := range map[int]uint64{math.MaxInt: 1 << 63, math.MaxInt - 1: 1<<63 - 1, 1 << 40: 1<<40 + 1, -1: 0, -2: math.MaxUint64, math.MinInt: 1<<63 + 1} {
		c := with(lined(), func(c *api.Collector) { c.Last = last })
		want := with(c, func(c *api.Collector) {
			c.Last++ // which begins anew behind the greatest one
			c.Lines = []api.Line{{Id: c.Last, Receiver: "r", Conn: api.Conn{Since: 4}}}
		})
		check(t, fmt.Sprint("Connect, Last ", last), do(c, connect(4, "r")), becomes(want, api.Out{N: n}))
	}
}

// TestP192NoLine has lines that are none.
func TestP192NoLine(t *testing.T) {
	for _, c := range []api.Collector{{}, good(t), lined()} {
		for _, id := range []int{0, -1, 3, 5, 100, math.MaxInt, math.MinInt} {
			for _, m := range []api.Move{feed(9, id, "x"), feed(9, id, ""), look(9, id), take(9, id)} {
				check(t, "Do of "+brief(m), do(c, m), stays(c, api.ErrUnknown))
			}
		}
	}
}

func TestP192Feed(t *testing.T) {
	c := good(t)
	for id, at := range map[int]int{1: 0, 2: 1, 4: 2} {
		for _, s := range []string{"", "x", "\r\n\xff", strings.Repeat("y", 1000)} {
			want := with(c, func(c *api.Collector) {
				c.Lines[at].Conn.Buf += s
				if s != "" {
					c.Lines[at].Conn.Since = 99
				}
			})
			check(t, "Feed", do(c, feed(99, id, s)), becomes(want, api.Out{}))
		}
	}
}

// TestP192FeedRefused has what server.Feed refuses, at the edge.
func TestP192FeedRefused(t *testing.T) {
	c := lined(api.Conn{}, api.Conn{Buf: "abc"}, api.Conn{Closed: true, Out: "x"}, api.Conn{Busy: true, Since: 4})
	most := strings.Repeat("x", api.MaxBuf)
	for _, x := range []struct {
		id   int
		s    string
		want api.Errno
	}{
		{1, most, api.OK}, {1, most + "x", api.ErrFull}, {2, most[3:], api.OK}, {2, most[2:], api.ErrFull}, {2, most, api.ErrFull},
		{3, "", api.ErrState}, {3, "x", api.ErrState}, {3, most + "x", api.ErrState}, {4, most, api.OK}, {4, "x", api.OK},
	} {
		want := with(c, func(c *api.Collector) {
			if x.want == api.OK {
				c.Lines[x.id-1].Conn.Buf += x.s
				c.Lines[x.id-1].Conn.Since = 7
			}
		})
		check(t, fmt.Sprint("Feed of line ", x.id), do(c, feed(7, x.id, x.s)), becomes(want, api.Out{Why: x.want}))
	}
}

// TestP192LookNone has lines of which nothing is looked at.
func TestP192LookNone(t *testing.T) {
	whole := post(logs("a:1"))
	c := lined(api.Conn{}, api.Conn{Buf: whole[:len(whole)-1], Since: 3}, api.Conn{Closed: true}, api.Conn{Closed: true, Out: "x"},
		api.Conn{Buf: whole, Busy: true}, api.Conn{Buf: whole, Out: strings.Repeat("x", api.MaxBytes+1)})
	for id := 1; id <= 6; id++ {
		check(t, fmt.Sprint("Look of line ", id), do(c, look(9, id)), becomes(c, api.Out{}))
	}
}

// TestP192LookReply has requests that are no data: they are answered by the server alone.
func TestP192LookReply(t *testing.T) {
	for s, want := range map[string]int{
		"GET /x HTTP/1.1\r\n\r\n":                             404,
		"GET /v1/logs HTTP/1.1\r\n\r\n":                       405,
		"POST /v1/logs HTTP/1.1\r\nConnection: close\r\n\r\n": 415,
		"POST /v1/logs HTTP/1.1\r\nContent-Type: application/x-protobuf\r\nContent-Length: 1\r\n\r\nx": 400,
		"x\r\n": 400,
		"POST /v1/logs HTTP/1.1\r\nContent-Length: 65537\r\n\r\n": 413,
		strings.Repeat("x", api.MaxBuf):                           413,
	} {
		for _, change := range []func(*api.Collector){func(*api.Collector) {}, func(c *api.Collector) { c.Limit = 0 }, func(c *api.Collector) { c.Stopped = true }} {
			c := with(lined(api.Conn{}, api.Conn{Buf: s, Since: 2}, api.Conn{Buf: s}), change)
			x := do(c, look(9, 2))
			conn, _, next, _ := server.Look(c.Lines[1].Conn, rules(), 9)
			check(t, "Look of "+brief(s), x, becomes(with(c, func(c *api.Collector) { c.Lines[1].Conn = conn }), api.Out{N: 1}))
			if next != api.NextReply || status(conn.Out) != want {
				t.Errorf("Look of %s: %s", brief(s), brief(conn))
			}
		}
	}
}

// TestP192LookPieces has a request in pieces, and two in one piece.
func TestP192LookPieces(t *testing.T) {
	c := past(t, opened(simple(""), 100), connect(0, "r"))
	s := post(logs("a:1 2")) + post(logs("b:3"))
	first := len(post(logs("a:1 2")))
	for i := range s[:first-1] {
		c = past(t, c, feed(1, 1, s[i:i+1]))
		if x := do(c, look(1, 1)); x.Out != (api.Out{}) || x.Collector.Accepted != 0 {
			t.Fatalf("Look behind %d bytes: %+v", i+1, x.Out)
		}
	}
	c = past(t, c, feed(2, 1, s[first-1:]))
	for _, want := range []uint64{2, 3} {
		x := do(c, look(3, 1))
		c = x.Collector
		if x.Out != (api.Out{N: 1}) || c.Accepted != want {
			t.Errorf("Look: %+v, Accepted %d", x.Out, c.Accepted)
		}
	}
	check(t, "Look of nothing", do(c, look(4, 1)), becomes(c, api.Out{}))
	x := do(c, take(4, 1))
	if strings.Count(x.Out.Text, "HTTP/1.1 200 OK\r\n") != 2 {
		t.Errorf("Take: %s", x.Out.Text)
	}
	checkGoes(t, "two requests", c, 0, "a:1 2", "b:3")
}

// answeredWith is the line's connection behind a look at a request that was answered so.
func answeredWith(l api.Line, status int, now uint64) api.Conn {
	c, _, _, _ := server.Look(l.Conn, rules(), now)
	c, _ = server.Answer(c, rules(), status, api.Partial{}, now)
	return c
}

// TestP192LookStopped has data that come when it is stopped.
func TestP192LookStopped(t *testing.T) {
	for _, limit := range []int{0, 1, 1000} {
		for _, s := range []string{post(logs("a:1 2", "b:3")), closing(logs("a:1 2", "b:3")), post(logs("a:1 2", "b:3")) + "GET"} {
			c := with(lined(api.Conn{Buf: s}), func(c *api.Collector) { c.Stopped, c.Limit, c.Refused = true, limit, 5 })
			want := with(c, func(c *api.Collector) {
				c.Lines[0].Conn = answeredWith(c.Lines[0], 503, 8)
				c.Refused = 8
			})
			check(t, "Look when it is stopped", do(c, look(8, 1)), becomes(want, api.Out{N: 1}))
		}
	}
}

// TestP192LookLimit has as many items held as there may be with those that come, and one more and fewer.
func TestP192LookLimit(t *testing.T) {
	for limit := range 12 {
		for n := range 9 { // 4 are held: 3 wait in a slot, 1 at an exporter
			c := opened(config("receiver r", "receiver s", "exporter e", "batch b size:4", "logs: r > b > e", "traces: s > e"), limit)
			c.Slots[0].Batch.Held = logs("a:1 2 3")
			other, _ := offered(t, opened(c.Config, 9), 1, "s", data(api.SignalTrace, "t:4"))
			c.Exporters = other.Exporters
			c.Lines, c.Last = []api.Line{{Id: 1, Receiver: "r", Conn: api.Conn{Buf: post(logs("a:" + numbered(10, 10+n)))}}}, 1
			x := do(c, look(2, 1))
			is := 4+n <= limit
			want := [4]uint64{uint64(n), 0, 0, 0}
			held := rawHeld(c) + uint64(n)
			answer := 200
			if !is {
				want, held, answer = [4]uint64{0, uint64(n), 0, 0}, rawHeld(c), 429
			}
			y := x.Collector
			if counts(y) != want || rawHeld(y) != held || y.Lines[0].Conn != answeredWith(c.Lines[0], answer, 2) || x.Out != (api.Out{N: 1}) {
				t.Errorf("Limit %d, 4 held, %d come: %v, counts %v, %d held", limit, n, x.Out, counts(y), rawHeld(y))
			}
			if !is && !same(y.Slots, c.Slots) || !is && !same(y.Exporters, c.Exporters) {
				t.Errorf("Limit %d, 4 held, %d come: what is held is changed", limit, n)
			}
		}
	}
}

// TestP192LookSignals has data of each signal, which no, one or several pipelines take.
func TestP192LookSignals(t *testing.T) {
	c := opened(config("receiver r", "receiver s", "receiver none", "exporter e queue:100", "exporter f",
		"logs: r > e", "logs/b: s r > f e", "traces: r > f", "logs/c: r > e"), 1000)
	for _, x := range []struct {
		receiver string
		signal   api.Signal
		e, f     uint64
	}{
		{"r", api.SignalLog, 9, 3}, {"s", api.SignalLog, 3, 3}, {"none", api.SignalLog, 0, 0},
		{"r", api.SignalTrace, 0, 3}, {"s", api.SignalTrace, 0, 0}, {"none", api.SignalTrace, 0, 0},
		{"r", api.SignalMetric, 0, 0}, {"s", api.SignalMetric, 0, 0}, {"none", api.SignalMetric, 0, 0},
	} {
		y, status := offered(t, c, 4, x.receiver, data(x.signal, "a:1", "b:2 3"))
		if status != 200 || y.Exporters[0].Ledger.Offered != x.e || y.Exporters[1].Ledger.Offered != x.f {
			t.Errorf("signal %d to %s: status %d, offered %d and %d", x.signal, x.receiver, status, y.Exporters[0].Ledger.Offered, y.Exporters[1].Ledger.Offered)
		}
		checkCounts(t, "data that came", y, 3, 0, 0, 0)
	}
}

// TestP192LookNoItems has data without items: they are accepted, and go nowhere.
func TestP192LookNoItems(t *testing.T) {
	for _, d := range []api.Data{logs(), logs("a:"), logs("a:", "b:")} {
		c := opened(rich(), 0)
		y, status := offered(t, c, 4, "r", d)
		want := with(c, func(c *api.Collector) { c.Last = 1 })
		check(t, "data without items", becomes(y, api.Out{}), becomes(want, api.Out{}))
		if status != 200 {
			t.Errorf("data without items: status %d", status)
		}
	}
}

func TestP192Take(t *testing.T) {
	c := lined(api.Conn{Out: "abc", Buf: "x", Since: 3, Busy: true, Last: true}, api.Conn{Buf: "y"}, api.Conn{Closed: true, Out: "bye"}, api.Conn{Closed: true}, api.Conn{Out: strings.Repeat("z", api.MaxBuf)})
	check(t, "Take of what is there", do(c, take(9, 1)), becomes(with(c, func(c *api.Collector) { c.Lines[0].Conn.Out = "" }), api.Out{Text: "abc"}))
	check(t, "Take of nothing", do(c, take(9, 2)), becomes(c, api.Out{}))
	check(t, "Take of a line that is closed", do(c, take(9, 3)), becomes(with(c, func(c *api.Collector) {
		c.Lines = append(c.Lines[:2:2], c.Lines[3:]...)
	}), api.Out{Text: "bye"}))
	check(t, "Take of a line that closed without a word", do(c, take(9, 4)), becomes(with(c, func(c *api.Collector) {
		c.Lines = append(c.Lines[:3:3], c.Lines[4:]...)
	}), api.Out{}))
	check(t, "Take of much", do(c, take(9, 5)), becomes(with(c, func(c *api.Collector) { c.Lines[4].Conn.Out = "" }), api.Out{Text: strings.Repeat("z", api.MaxBuf)}))
	y := past(t, c, take(9, 3))
	check(t, "Take of a line that is no more", do(y, take(9, 3)), stays(y, api.ErrUnknown))
}

// TestP192LineStays has a line that is closed stay, till what it has to say is taken.
func TestP192LineStays(t *testing.T) {
	c := past(t, opened(simple(""), 100), connect(0, "r"), connect(0, "r"))
	c = past(t, c, feed(1, 1, closing(logs("a:1"))), look(2, 1), look(3, 1), tick(4), tick(2000), stop(2001))
	if len(c.Lines) != 2 || !c.Lines[0].Conn.Closed || !c.Lines[1].Conn.Closed {
		t.Fatalf("lines: %+v", c.Lines)
	}
	check(t, "Feed of a line that is closed", do(c, feed(2002, 1, "x")), stays(c, api.ErrState))
	x := do(c, take(2002, 1))
	if status(x.Out.Text) != 200 || len(x.Collector.Lines) != 1 || x.Collector.Lines[0].Id != 2 {
		t.Errorf("Take: %+v, lines %+v", x.Out, x.Collector.Lines)
	}
	x = do(x.Collector, take(2002, 2))
	if x.Out != (api.Out{}) || len(x.Collector.Lines) != 0 || x.Collector.Last != 2 {
		t.Errorf("Take: %+v, lines %+v", x.Out, x.Collector.Lines)
	}
}

// TestP192TickLines has lines just before, at and behind their time.
func TestP192TickLines(t *testing.T) {
	c := lined(api.Conn{Since: 10}, api.Conn{Since: 11, Buf: "x"}, api.Conn{Since: 5, Busy: true, Last: true}, api.Conn{Since: 12, Out: "a"}, api.Conn{Closed: true, Out: "b"}, api.Conn{Since: 1 << 62}, api.Conn{Since: 10, Buf: "GET", Out: "c"})
	for _, now := range []uint64{0, 9, 10, 1009, 1010, 1011, 1012, 1 << 62, 1<<62 + 1, 1<<62 + 1000, math.MaxUint64} {
		want := with(c, func(c *api.Collector) {
			for i := range c.Lines {
				c.Lines[i].Conn, _ = server.Tick(c.Lines[i].Conn, rules(), now)
			}
		})
		x := do(c, tick(now))
		check(t, fmt.Sprint("Tick at ", now), x, becomes(want, api.Out{}))
		closed := 0
		for _, l := range x.Collector.Lines {
			if l.Conn.Closed {
				closed++
			}
		}
		n := map[uint64]int{1010: 3, 1011: 4, 1012: 5, 1 << 62: 5, 1<<62 + 1: 5, 1<<62 + 1000: 6, math.MaxUint64: 6}[now]
		if closed != max(n, 1) {
			t.Errorf("Tick at %d: %d lines are closed, want %d", now, closed, max(n, 1))
		}
		check(t, "Tick once more", do(x.Collector, tick(now)), x)
	}
}
