package front_test

import (
	"fmt"
	"math/rand/v2"
	"strings"
	"testing"

	"penstock/api"
	"penstock/front"
	"penstock/http"
	"penstock/trace"
)

// simple is the config of a receiver r, and a pipeline logs from r to e.
const simple = "receivers:\n  r:\nexporters:\n  e:\npipelines:\n  logs:\n    receivers: [r]\n    exporters: [e]\n"

// rich has processors of each kind, a connector, and pipelines of several signals.
const rich = `receivers:
  r:
  s:
processors:
  a:
    kind: attributes
    actions: ["insert k int:1"]
  f:
    kind: filter
    drop: name == "x"
  b:
    kind: batch
    size: 3
    wait: 50ms
connectors:
  c:
exporters:
  e:
    consumers: 2
    queue: 4
  g:
    total: 300ms
pipelines:
  logs:
    receivers: [r]
    processors: [f, b]
    exporters: [c, g]
  logs/b:
    receivers: [c, s]
    processors: [a]
    exporters: [e, g]
  traces:
    receivers: [r, s]
    exporters: [e]
`

func logs(names ...string) api.Data {
	g := api.Group{Scope: "a"}
	for _, name := range names {
		g.Items = append(g.Items, api.Item{Name: name})
	}
	return api.Data{Signal: api.SignalLog, Groups: []api.Group{g}}
}

func post(names ...string) string {
	body, why := trace.Write(logs(names...))
	s, whyRequest := http.WriteRequest(api.Request{Method: "POST", Target: "/v1/logs", Heads: []api.Head{{Name: "Content-Type", Value: "application/x-protobuf"}}, Body: body})
	if why != api.OK || whyRequest != api.OK {
		panic(why)
	}
	return s
}

// request is what an exporter sends.
func request(names ...string) string {
	body, _ := trace.Write(logs(names...))
	return fmt.Sprintf("POST /v1/logs HTTP/1.1\r\nHost: backend\r\nContent-Type: application/x-protobuf\r\nContent-Length: %d\r\n\r\n%s", len(body), body)
}

const replied = "HTTP/1.1 200 OK\r\nContent-Type: application/x-protobuf\r\nContent-Length: 0\r\n\r\n"

// TestP203Example is the chapter's.
func TestP203Example(t *testing.T) {
	checkRun(t, simple, "connect r\nlook 1\n", "ok 1 -\nok 0 -\nheld 0\n", api.OK, 0)
	checkRun(t, simple, "", "held 0\n", api.OK, 0)
	checkRun(t, simple, "at 7\n", "held 0\n", api.OK, 0)
	checkRun(t, "", "", "held 0\n", api.OK, 0)
	checkRun(t, "", "connect r\ntick\nstop\ncrash\n", "unknown 0 -\nok 0 -\nok 0 -\nok 0 -\nheld 0\n", api.OK, 0)
}

// TestP203Moves has each kind of moves, and what comes of them.
func TestP203Moves(t *testing.T) {
	var moves, wants []string
	for _, x := range []struct{ script, want, held string }{
		{"feed 1 " + wordOf(post("1", "2")), "unknown 0 -", "0"},
		{"connect r", "ok 1 -", "0"},
		{"feed 1 " + wordOf(post("1", "2")), "ok 0 -", "0"},
		{"look 1", "ok 1 -", "2"},
		{"look 1", "ok 0 -", "2"},
		{"take 1", "ok 0 " + wordOf(replied), "2"},
		{"take 1", "ok 0 -", "2"},
		{"send 0", "ok 1 " + wordOf(request("1", "2")), "2"},
		{"send 0", "unknown 0 -", "2"},
		{"send 1", "range 0 -", "2"},
		{"reply 1 1 200 -", "range 0 -", "2"},
		{"reply 0 2 200 -", "lease 0 -", "2"},
		{"at 5\nreply 0 1 503 -", "ok 0 -", "2"},
		{"at 104\nsend 0", "unknown 0 -", "2"},
		{"at 105\nsend 0", "ok 1 " + wordOf(request("1", "2")), "2"},
		{"reply 0 1 200 %0A%02%08%01", "ok 0 -", "0"},
		{"connect -", "unknown 0 -", "0"},
		{"connect R", "unknown 0 -", "0"},
		{"connect r", "ok 2 -", "0"},
		{"feed 2 x%0D%0A", "ok 0 -", "0"},
		{"look 2", "ok 1 -", "0"},
		{"feed 2 x", "state 0 -", "0"},
		{"take 2", "ok 0 " + wordOf("HTTP/1.1 400 Bad Request\r\nConnection: close\r\nContent-Length: 0\r\n\r\n"), "0"},
		{"take 2", "unknown 0 -", "0"},
		{"tick", "ok 0 -", "0"},
		{"stop", "ok 0 -", "0"},
		{"connect r", "state 0 -", "0"},
		{"feed 1 " + wordOf(post("3")), "ok 0 -", "0"},
		{"look 1", "ok 1 -", "0"},
		{"take 1", "ok 0 " + wordOf("HTTP/1.1 503 Service Unavailable\r\nContent-Length: 0\r\n\r\n"), "0"},
		{"crash", "ok 0 -", "0"},
		{"crash 1,2 3", "ok 0 -", "0"},
		{"look 1", "unknown 0 -", "0"},
	} {
		moves = append(moves, x.script)
		wants = append(wants, x.want)
		checkRun(t, simple, strings.Join(moves, "\n")+"\n", strings.Join(wants, "\n")+"\nheld "+x.held+"\n", api.OK, 0)
	}
}

// TestP203Open has the rules that Run opens a collector by: MaxBody, Idle, Limit, and disks that never fail.
func TestP203Open(t *testing.T) {
	head := "POST /v1/logs HTTP/1.1\r\nContent-Length: "
	checkRun(t, simple, "connect r\nfeed 1 "+wordOf(head+"65536\r\n\r\n")+"\nlook 1\n", "ok 1 -\nok 0 -\nok 0 -\nheld 0\n", api.OK, 0)
	checkRun(t, simple, "connect r\nfeed 1 "+wordOf(head+"65537\r\n\r\n")+"\nlook 1\n", "ok 1 -\nok 0 -\nok 1 -\nheld 0\n", api.OK, 0)
	for now, want := range map[string]string{"30009": "ok 0 -", "30010": "unknown 0 -", "30011": "unknown 0 -"} {
		script := "at 10\nconnect r\nat " + now + "\ntick\ntake 1\ntake 1\n"
		checkRun(t, simple, script, "ok 1 -\nok 0 -\nok 0 -\n"+want+"\nheld 0\n", api.OK, 0)
	}
	var names []string
	for range 500 {
		names = append(names, "x")
	}
	many := wordOf(post(names...))
	config := strings.Replace(simple, "  e:\n", "  e:\n    queue: 1000\n", 1)
	script := "connect r\n"
	want := "ok 1 -\n"
	for range 9 {
		script += "feed 1 " + many + "\nlook 1\n"
		want += "ok 0 -\nok 1 -\n"
	}
	checkRun(t, config, script, want+"held 4500\n", api.OK, 0)
}

// TestP203Limit has 10000 items held, and one more come.
func TestP203Limit(t *testing.T) {
	config := "receivers:\n  r:\nexporters:\n  e:\n    queue: 1000\n  f:\n    queue: 1000\n  g:\n    queue: 1000\n  h:\n    queue: 1000\npipelines:\n"
	for _, name := range []string{"logs", "logs/b", "logs/c", "logs/d", "logs/e"} {
		config += "  " + name + ":\n    receivers: [r]\n    exporters: [e, f, g, h]\n"
	}
	names := strings.Fields(strings.Repeat("x ", 125)) // of which 20 come each time: 2500
	feed := "feed 1 " + wordOf(post(names...)) + "\nlook 1\ntake 1\n"
	fine := "ok 0 -\nok 1 -\nok 0 " + wordOf(replied) + "\n"
	tooMany := "ok 0 -\nok 1 -\nok 0 " + wordOf("HTTP/1.1 429 Too Many Requests\r\nContent-Length: 0\r\n\r\n") + "\n"
	none := "feed 1 " + wordOf(post()) + "\nlook 1\ntake 1\n"
	one := "feed 1 " + wordOf(post("x")) + "\nlook 1\ntake 1\n"
	checkRun(t, config, "connect r\n"+strings.Repeat(feed, 4)+none+one, "ok 1 -\n"+strings.Repeat(fine, 4)+fine+tooMany+"held 10000\n", api.OK, 0)
	checkRun(t, config, "connect r\n"+strings.Repeat(feed, 3)+one+feed, "ok 1 -\n"+strings.Repeat(fine, 5)+"held 10020\n", api.OK, 0)
}

// TestP203Errors has each part be wrong, and all behind it, too: the first one is told.
func TestP203Errors(t *testing.T) {
	type part struct {
		text string
		why  api.Errno
		line int
	}
	long := strings.Repeat("#", api.MaxConf+1)
	configs := []part{
		{long, api.ErrLong, 0},
		{"x", api.ErrConf, 1},
		{"receivers:\n  r:\n  r:\n", api.ErrConf, 3},
		{"\n\na:\n b:\n  c:\n   d:\n    e:\n     f:\n      g:\n       h:\n        i:\n", api.ErrDepth, 11},
		{"receivers: x\n", api.ErrConf, 0}, // from here on of the graph
		{"x:\n", api.ErrConf, 0},
		{strings.Replace(simple, "[e]", "[x]", 1), api.ErrUnknown, 0},
		{strings.Replace(simple, "exporters:\n  e:\n", "connectors:\n  e:\n", 1), api.ErrConf, 0},
		{strings.Replace(simple, "  e:\n", "  e:\n    x: 1\n", 1), api.ErrConf, 0}, // from here on of the collector
		{strings.Replace(simple, "  e:\n", "  e:\n    queue: 0\n", 1), api.ErrRange, 0},
		{simple + "processors:\n  b:\n    kind: batch\n    size: 0\n", api.ErrRange, 0},
		{simple + "processors:\n  f:\n    kind: filter\n    drop: x\n", api.ErrConf, 0},
		{simple + "processors:\n  f:\n    kind: filter\n    drop: " + strings.Repeat("true and ", 200) + "true\n", api.ErrMany, 0},
		{simple, api.OK, 0},
	}
	scripts := []part{
		{strings.Repeat("x", api.MaxScript+1), api.ErrLong, 0},
		{"x\n", api.ErrConf, 1},
		{"connect r\nat 5\ntick\nat 4\n", api.ErrConf, 4},
		{strings.Repeat("tick\n", api.MaxSteps+1), api.ErrMany, 1025},
	}
	for _, c := range configs {
		if c.why != api.OK {
			checkRun(t, c.text, "tick\n", "", c.why, c.line)
		}
		for _, s := range scripts {
			want := c
			if c.why == api.OK {
				want = s
			}
			checkRun(t, c.text, s.text, "", want.why, want.line)
		}
	}
}

// anyScript has moves that mostly go one behind another.
func anyScript(r *rand.Rand, n int) string {
	s, lines, now := "", 0, 0
	for range n {
		line := 1 + r.IntN(max(1, lines))
		switch r.IntN(14) {
		case 0, 1:
			s += "connect " + pick(r, "r", "s", "r", "s", "x") + "\n"
			lines++
		case 2, 3, 4:
			var names []string
			for range r.IntN(4) {
				names = append(names, pick(r, "x", "y", "z"))
			}
			s += fmt.Sprintf("feed %d %s\nlook %d\n", line, wordOf(post(names...)), line)
		case 5:
			s += fmt.Sprintf("take %d\n", line)
		case 6, 7:
			now += r.IntN(60)
			s += fmt.Sprintf("at %d\n%s", now, pick(r, "", "tick\n"))
		case 8, 9:
			s += fmt.Sprintf("send %d\n", r.IntN(3))
		case 10, 11:
			s += fmt.Sprintf("reply %d %d %d %s\n", r.IntN(3), 1+r.IntN(4), pick(r, 200, 200, 503, 400, 0), pick(r, "-", "x", "%0A%02%08%01"))
		case 12:
			s += fmt.Sprintf("look %d\n", line)
		case 13:
			s += pick(r, "tick\n", "tick\n", "stop\n", "crash\n", "crash 1,2 3\n")
		}
	}
	return s
}

// TestP203Model holds Run against the calls of collect, one behind the other; it tells 20.7, too: there is a line for each move, and one more.
func TestP203Model(t *testing.T) {
	r := rand.New(rand.NewPCG(20, 3))
	had := map[string]int{}
	for range 200 {
		s := anyScript(r, r.IntN(60))
		config := pick(r, simple, rich)
		want := ran(t, config, s)
		checkRun(t, config, s, want, api.OK, 0)
		moves, _, _ := front.Parse(s)
		if n := strings.Count(want, "\n"); n != len(moves)+1 || !strings.Contains("\n"+want, "\nheld ") {
			t.Errorf("%d lines of %d moves", n, len(moves))
		}
		for _, line := range strings.Split(want, "\n") {
			word, _, _ := strings.Cut(line, " ")
			had[word]++
		}
	}
	for _, word := range []string{"ok", "unknown", "range", "state", "lease"} {
		if had[word] < 10 {
			t.Errorf("names %v", had)
		}
	}
}

// TestP206First has what comes of a script come first of it and more moves.
func TestP206First(t *testing.T) {
	r := rand.New(rand.NewPCG(20, 66))
	for range 100 {
		lines := strings.SplitAfter(anyScript(r, 40), "\n")
		at := r.IntN(len(lines))
		first := strings.Join(lines[:at], "")
		a, whyA, _ := front.Run(rich, first)
		b, whyB, _ := front.Run(rich, first+strings.Join(lines[at:], ""))
		a = a[:strings.LastIndex(strings.TrimSuffix(a, "\n"), "\n")+1] // without what is held
		if whyA != api.OK || whyB != api.OK || !strings.HasPrefix(b, a) {
			t.Errorf("Run of %s: %s\nand of more moves: %s", brief(first), brief(a), brief(b))
		}
	}
}

// TestP207Lines has no move, one and as many as there may be.
func TestP207Lines(t *testing.T) {
	for _, n := range []int{0, 1, 2, 1023, 1024} {
		checkRun(t, simple, strings.Repeat("at 3\ntick\n", n), strings.Repeat("ok 0 -\n", n)+"held 0\n", api.OK, 0)
	}
	full := strings.Repeat("connect r\n", 33)
	s, why, _ := front.Run(simple, full)
	if why != api.OK || !strings.HasSuffix(s, "ok 31 -\nok 32 -\nfull 0 -\nheld 0\n") {
		t.Errorf("Run of many connects: error %d, %s", why, s)
	}
}
