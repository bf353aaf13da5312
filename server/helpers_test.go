package server_test

import (
	"math/rand/v2"
	"reflect"
	"slices"
	"strconv"
	"strings"
	"testing"

	"penstock/api"
	"penstock/metric"
	"penstock/server"
	"penstock/trace"
)

const typed = "Content-Type: application/x-protobuf"

func rules() api.Rules { return api.Rules{MaxBody: api.MaxBytes, Idle: 100} }

func targets() map[string]api.Signal {
	return map[string]api.Signal{"/v1/traces": api.SignalTrace, "/v1/logs": api.SignalLog, "/v1/metrics": api.SignalMetric}
}

// asked is a request with these heads' lines.
func asked(first, body string, lines ...string) string {
	lines = append(slices.Clone(lines), "Content-Length: "+strconv.Itoa(len(body)), "", "")
	return first + " HTTP/1.1\r\n" + strings.Join(lines, "\r\n") + body
}

// posted is a request that has data, if its body has.
func posted(target, body string, lines ...string) string {
	return asked("POST "+target, body, append([]string{typed}, lines...)...)
}

// replied is a reply as the document has it, closing if it is the last one.
func replied(status int, last bool, body string) string {
	reason := map[int]string{200: "OK", 400: "Bad Request", 404: "Not Found", 405: "Method Not Allowed", 408: "Request Timeout", 413: "Content Too Large", 415: "Unsupported Media Type", 429: "Too Many Requests", 503: "Service Unavailable"}[status]
	s := "HTTP/1.1 " + strconv.Itoa(status) + " " + reason + "\r\n"
	if status == 200 {
		s += typed + "\r\n"
	}
	if last {
		s += "Connection: close\r\n"
	}
	return s + "Content-Length: " + strconv.Itoa(len(body)) + "\r\n\r\n" + body
}

// some is data of a signal, and their message.
func some(s api.Signal, names ...string) (api.Data, string) {
	d := api.Data{Signal: s, Groups: []api.Group{{Resource: pairs("r"), Scope: "s", Attrs: pairs("s")}}}
	for _, name := range names {
		x := api.Item{Name: name, Time: 5, Attrs: pairs(name)}
		switch s {
		case api.SignalTrace:
			x.Trace, x.Span = "0123456789abcdef", "01234567"
		case api.SignalLog:
			x.Body = api.Value{Kind: api.KindList, List: []api.Value{{Kind: api.KindInt, N: 7}}}
		case api.SignalMetric:
			x.Kind, x.Point = api.MetricHist, api.Point{Kind: api.PointHist, Count: 3, Bounds: []float64{1}, Counts: []uint64{1, 2}}
			x.Temp = 1
		}
		d.Groups[0].Items = append(d.Groups[0].Items, x)
	}
	write := trace.Write
	if s == api.SignalMetric {
		write = metric.Write
	}
	body, why := write(d)
	if why != api.OK {
		panic("the tests' data are none")
	}
	return d, body
}

func pairs(key string) []api.Pair {
	return []api.Pair{{Key: key, Value: api.Value{Kind: api.KindText, S: "v"}}}
}

// same holds data against each other without the packages that are tested; there are no floats that are not themselves among them.
func same(a, b api.Data) bool {
	if len(a.Groups) == 0 && len(b.Groups) == 0 {
		return a.Signal == b.Signal
	}
	return reflect.DeepEqual(a, b)
}

// spoil writes over all elements of all lists of what is handed in.
func spoil(x reflect.Value) {
	switch x.Kind() {
	case reflect.Struct:
		for i := range x.NumField() {
			spoil(x.Field(i))
		}
	case reflect.Slice:
		for i := range x.Len() {
			spoil(x.Index(i))
			x.Index(i).SetZero()
		}
	}
}

func shown(c api.Conn) string {
	cut := func(s string) string {
		if len(s) > 300 {
			s = s[:300] + ".."
		}
		return strconv.Quote(s)
	}
	return "Buf " + cut(c.Buf) + ", Out " + cut(c.Out) + ", Closed " + strconv.FormatBool(c.Closed) + ", Busy " + strconv.FormatBool(c.Busy) + ", Last " + strconv.FormatBool(c.Last) + ", Since " + strconv.FormatUint(c.Since, 10)
}

func checkConn(t *testing.T, name string, c api.Conn, why api.Errno, want api.Conn, wantWhy api.Errno) {
	t.Helper()
	if why != wantWhy {
		t.Errorf("%s: error %d, want %d", name, why, wantWhy)
	}
	if c != want {
		t.Errorf("%s: %s\nwant %s", name, shown(c), shown(want))
	}
}

// checkLook tells what a look at c is, at time 70.
func checkLook(t *testing.T, name string, c api.Conn, r api.Rules, want api.Conn, wantData api.Data, wantNext api.Next) {
	t.Helper()
	got, d, next, why := server.Look(c, r, 70)
	checkConn(t, "Look of "+name, got, why, want, api.OK)
	if next != wantNext || !same(d, wantData) {
		t.Errorf("Look of %s: %d, %v, want %d, %v", name, next, d, wantNext, wantData)
	}
}

// checkStays tells that a look does nothing.
func checkStays(t *testing.T, name string, c api.Conn, r api.Rules) {
	t.Helper()
	checkLook(t, name, c, r, c, api.Data{}, api.NextNone)
}

// checkReply tells that a look at s, behind which there is something, replies that status, and goes on.
func checkReply(t *testing.T, name, s string, status int) {
	t.Helper()
	for _, behind := range []string{"", "x", s} {
		c := api.Conn{Buf: s + behind, Out: "out", Since: 7}
		checkLook(t, name, c, rules(), api.Conn{Buf: behind, Out: "out" + replied(status, false, ""), Since: 70}, api.Data{}, api.NextReply)
	}
}

// checkEnds tells that a look at s replies that status, and closes; since is what Since is then.
func checkEnds(t *testing.T, name, s string, r api.Rules, status int, since uint64) {
	t.Helper()
	c := api.Conn{Buf: s, Out: "out", Since: 7}
	checkLook(t, name, c, r, api.Conn{Out: "out" + replied(status, true, ""), Closed: true, Since: since}, api.Data{}, api.NextReply)
}

func checkAnswer(t *testing.T, name string, c api.Conn, status int, p api.Partial, want api.Conn, wantWhy api.Errno) {
	t.Helper()
	got, why := server.Answer(c, rules(), status, p, 70)
	checkConn(t, "Answer of "+name, got, why, want, wantWhy)
}

func pick[T any](r *rand.Rand, l ...T) T { return l[r.IntN(len(l))] }

// someRequest is what a client may ask, and what it is replied: 200 stands for data.
func someRequest(r *rand.Rand) (string, int, bool) {
	last, lines := false, []string(nil)
	if r.IntN(9) == 0 {
		last, lines = true, []string{"Connection: close"}
	}
	target := pick(r, "/v1/traces", "/v1/logs", "/v1/metrics")
	switch r.IntN(9) {
	case 0:
		return asked("GET /x", "", lines...), 404, last
	case 1:
		return asked("PUT "+target, "body", lines...), 405, last
	case 2:
		return asked("POST "+target, "body", lines...), 415, last
	case 3:
		return posted(target, "\x0f", lines...), 400, last
	case 4:
		return pick(r, "x\r\n", "POST / HTTP/1.1\r\n\n", "GET / HTTP/1.1\r\nContent-Length: x\r\n\r\n"), 400, true
	case 5:
		if r.IntN(3) == 0 {
			return asked("POST "+target, strings.Repeat("x", 1001)), 413, true
		}
	}
	_, body := some(targets()[target], []string{"a", "b", "c"}[:r.IntN(4)]...)
	if r.IntN(3) == 0 {
		lines = append([]string{typed, "Transfer-Encoding: chunked"}, lines...)
		at := r.IntN(len(body)-1) + 1
		chunk := func(s string) string { return strconv.FormatInt(int64(len(s)), 16) + ";x\r\n" + s + "\r\n" }
		return "POST " + target + " HTTP/1.1\r\n" + strings.Join(lines, "\r\n") + "\r\n\r\n" + chunk(body[:at]) + chunk(body[at:]) + "0\r\na: b\r\n\r\n", 200, last
	}
	return posted(target, body, lines...), 200, last
}
