package server_test

import (
	"math"
	"math/rand/v2"
	"runtime"
	"strings"
	"testing"

	"penstock/api"
	"penstock/http"
	"penstock/server"
)

// talk is what came of a connection.
type talk struct {
	conn  api.Conn
	out   string
	data  []api.Data
	right bool
}

// look looks at all that there is; the requests are answered in turns, by their number.
func (x *talk) look(r api.Rules, now uint64) {
	for {
		c, d, next, why := server.Look(x.conn, r, now)
		x.keep(c, r, why)
		if next == api.NextNone {
			return
		}
		if next == api.NextData {
			x.data = append(x.data, d)
			status := []int{200, 429, 200, 503, 400}[len(x.data)%5]
			c, why = server.Answer(x.conn, r, status, api.Partial{Rejected: int64(len(x.data))}, now)
			x.keep(c, r, why)
		}
		c, s, why := server.Take(x.conn, r)
		x.keep(c, r, why)
		x.out += s
	}
}

func (x *talk) keep(c api.Conn, r api.Rules, why api.Errno) {
	x.conn = c
	x.right = x.right && why == api.OK && server.Check(c, r) == api.OK
}

// talkOf is what comes of the pieces, all being looked at behind each, and whether all was right.
func talkOf(r api.Rules, pieces []string) talk {
	x := talk{right: true}
	for i, piece := range pieces {
		if x.conn.Closed {
			break
		}
		c, why := server.Feed(x.conn, r, piece, uint64(i))
		x.keep(c, r, why)
		x.look(r, uint64(i))
	}
	return x
}

func cut(r *rand.Rand, s string, most int) []string {
	var l []string
	for s != "" {
		n := min(r.IntN(most+1), len(s))
		l = append(l, s[:n])
		s = s[n:]
	}
	return l
}

func (x talk) same(o talk) bool {
	if x.out != o.out || len(x.data) != len(o.data) || x.conn.Closed != o.conn.Closed || x.conn.Buf != o.conn.Buf {
		return false
	}
	for i := range x.data {
		if !same(x.data[i], o.data[i]) {
			return false
		}
	}
	return true
}

func small() api.Rules { return api.Rules{MaxBody: 1000, Idle: 9} }

func TestP87WhateverTheChunks(t *testing.T) {
	r := rand.New(rand.NewPCG(8, 7))
	for range 300 {
		s := ""
		for range r.IntN(12) {
			part, _, _ := someRequest(r)
			s += part
		}
		for range r.IntN(3) { // and what is nearly right
			at := r.IntN(len(s) + 1)
			s = s[:at] + pick(r, "", "\r\n", "x", "\n", ":") + s[min(at+r.IntN(2), len(s)):]
		}
		whole := talkOf(small(), []string{s})
		for _, most := range []int{1, 2, 40, 1000, len(s)} {
			if x := talkOf(small(), cut(r, s, most)); !x.same(whole) || !x.right {
				t.Fatalf("%q in pieces of %d at most: %s, %d data, %q\nin one: %s, %d data, %q", s, most, shown(x.conn), len(x.data), x.out, shown(whole.conn), len(whole.data), whole.out)
			}
		}
	}
}

// TestP87InTwo has a talk cut in two at each place.
func TestP87InTwo(t *testing.T) {
	_, body := some(api.SignalLog, "a")
	s := posted("/v1/logs", body) + asked("GET /x", "") + "POST /v1/traces HTTP/1.1\r\n" + typed + "\r\nTransfer-Encoding: chunked\r\n\r\n2;x\r\n\x0a\x02\r\n2\r\n\x12\x00\r\n0\r\n\r\n" + posted("/v1/metrics", "\x0f") + asked("GET /v1/logs", "x", "Connection: close") + "x"
	whole := talkOf(small(), []string{s})
	if want := replied(429, false, "") + replied(404, false, "") + replied(200, false, "\x0a\x02\x08\x02") + replied(400, false, "") + replied(405, true, ""); whole.out != want || len(whole.data) != 2 || !whole.conn.Closed || !whole.right {
		t.Errorf("replied %q, want %q, %d data, %s", whole.out, want, len(whole.data), shown(whole.conn))
	}
	for n := range len(s) {
		if x := talkOf(small(), []string{s[:n], s[n:]}); !x.same(whole) || !x.right {
			t.Errorf("cut behind %d bytes: %q, %d data, %s", n, x.out, len(x.data), shown(x.conn))
		}
	}
}

func TestP88InOrder(t *testing.T) {
	r := rand.New(rand.NewPCG(8, 8))
	for range 400 {
		s, data, ends := "", 0, false
		var want []int
		for range r.IntN(15) {
			part, status, last := someRequest(r)
			s += part
			if ends {
				continue // which is looked at no more
			}
			if ends = last; status == 200 {
				data++
				status = []int{200, 429, 200, 503, 400}[data%5]
			}
			want = append(want, status)
		}
		x := talkOf(small(), cut(r, s, 3000))
		out := x.out
		for i, status := range want {
			reply, size, why := http.ReadResponse(out, api.MaxBytes)
			value, is := http.Find(reply.Heads, "Connection")
			closes := ends && i == len(want)-1
			if why != api.OK || reply.Status != status || is != closes || is && value != "close" {
				t.Fatalf("%q: reply %d is %v, error %d, want %v", s, i, reply, why, want)
			}
			out = out[size:]
		}
		if out != "" || len(x.data) != data || x.conn.Closed != ends {
			t.Fatalf("%q: behind %d replies %q, %d data of %d, %s", s, len(want), out, len(x.data), data, shown(x.conn))
		}
	}
}

// someConn is any connection; is it right, there is room for a reply.
func someConn(r *rand.Rand) api.Conn {
	c := api.Conn{Since: r.Uint64() >> r.IntN(64), Closed: r.IntN(4) == 0, Busy: r.IntN(2) == 0, Last: r.IntN(3) == 0}
	c.Out = strings.Repeat("o", pick(r, 0, 0, 1, api.MaxBytes, api.MaxBytes+1, 2*api.MaxBytes, api.MaxBuf+1))
	for range r.IntN(3) {
		part, _, _ := someRequest(r)
		c.Buf += part[:len(part)-r.IntN(2)*r.IntN(len(part))]
	}
	switch r.IntN(9) {
	case 0:
		c.Buf = strings.Repeat("x", api.MaxBuf+r.IntN(2))
	case 1:
		c.Buf = endless(api.MaxBuf - r.IntN(2))
	}
	if c.Closed && r.IntN(2) == 0 {
		c.Buf, c.Busy, c.Last = "", false, false
	}
	return c
}

// step does anything with c, and tells the error.
func step(r *rand.Rand, c api.Conn, l api.Rules) (api.Conn, api.Errno) {
	now := r.Uint64() >> r.IntN(64)
	switch r.IntN(6) {
	case 0:
		part, _, _ := someRequest(r)
		return server.Feed(c, l, part[r.IntN(2)*r.IntN(len(part)):], now)
	case 1:
		return server.Answer(c, l, pick(r, 200, 200, 400, 429, 503, 404, -1), api.Partial{Rejected: int64(r.IntN(9) - 1), Message: pick(r, "", "x", "\xff")}, now)
	case 2:
		return server.Tick(c, l, now)
	case 3:
		c, _, why := server.Take(c, l)
		return c, why
	}
	c, _, _, why := server.Look(c, l, now)
	return c, why
}

// TestP89AndP1Right does anything with any connections, hand-made ones among them: what is answered is right, or zero beside an error.
func TestP89AndP1Right(t *testing.T) {
	r := rand.New(rand.NewPCG(8, 9))
	for range 3000 {
		l := api.Rules{MaxBody: pick(r, 0, 9, 1000, api.MaxBytes, api.MaxBytes, -1, api.MaxBytes+1), Idle: r.Uint64() >> r.IntN(65)}
		c := someConn(r)
		for range 9 {
			before := server.Check(c, l)
			got, why := step(r, c, l)
			switch {
			case before != api.OK && why != before, why != api.OK && got != (api.Conn{}):
				t.Fatalf("%s: error %d, where Check says %d, %s", shown(c), why, before, shown(got))
			case why == api.OK && server.Check(got, l) != api.OK:
				t.Fatalf("%s is changed to %s, which is not right", shown(c), shown(got))
			case why == api.OK:
				c = got
			}
		}
	}
}

func TestP810NoMore(t *testing.T) {
	request := posted("/v1/logs", "")
	for name, buf := range map[string]string{
		"what is no request":   "x\r\n" + request,
		"what is too long":     asked("GET /x", strings.Repeat("x", 1001)) + request,
		"the last one":         asked("GET /x", "", "Connection: close") + request,
		"the last one, answer": posted("/v1/logs", "", "Connection: close") + request,
	} {
		x := talkOf(small(), []string{buf})
		if !x.conn.Closed || x.conn.Buf != "" || strings.Count(x.out, "HTTP/1.1 ") != 1 || !strings.Contains(x.out, "Connection: close\r\n") {
			t.Errorf("%s: %q, %s", name, x.out, shown(x.conn))
		}
	}
	for _, c := range []api.Conn{{Closed: true}, {Closed: true, Out: "out", Since: 7}} {
		checkStays(t, "a closed one", c, rules())
		for _, now := range []uint64{0, 7, math.MaxUint64} {
			got, why := server.Tick(c, api.Rules{}, now)
			checkConn(t, "Tick of a closed one", got, why, c, api.OK)
		}
		got, why := server.Feed(c, rules(), request, 9)
		checkConn(t, "Feed of a closed one", got, why, api.Conn{}, api.ErrState)
		checkAnswer(t, "a closed one", c, 200, api.Partial{}, api.Conn{}, api.ErrState)
		got, s, why := server.Take(c, rules())
		checkConn(t, "Take of a closed one", got, why, api.Conn{Closed: true, Since: c.Since}, api.OK)
		checkStays(t, "a closed one that was taken from", got, rules())
		if s != c.Out {
			t.Errorf("Take of a closed one: %q", s)
		}
	}
}

func TestP3AndP4AlwaysTheSame(t *testing.T) {
	before := runtime.NumGoroutine()
	d, body := some(api.SignalTrace, "a")
	for range 50 {
		checkLook(t, "once more", api.Conn{Buf: posted("/v1/traces", body)}, rules(), api.Conn{Busy: true, Since: 70}, d, api.NextData)
		checkEnds(t, "once more", "x\r\n", rules(), 400, 7)
		checkAnswer(t, "once more", api.Conn{Busy: true}, 429, api.Partial{}, api.Conn{Out: replied(429, false, ""), Since: 70}, api.OK)
		checkAnswer(t, "once more", api.Conn{Busy: true}, 429, api.Partial{Message: "\xff"}, api.Conn{}, api.ErrUtf)
	}
	for range 1000 { // one that is joined may still be on its way out
		if runtime.NumGoroutine() <= before {
			return
		}
		runtime.Gosched()
	}
	t.Errorf("%d goroutines are left", runtime.NumGoroutine()-before)
}
