package collect_test

import (
	"fmt"
	"math"
	"math/rand/v2"
	"reflect"
	"slices"
	"strconv"
	"strings"
	"testing"

	"penstock/api"
	"penstock/collect"
	"penstock/conf"
	"penstock/export"
	"penstock/graph"
	"penstock/http"
	"penstock/metric"
	"penstock/pdata"
	"penstock/server"
	"penstock/trace"
)

func textNode(s string) api.Node         { return api.Node{Kind: api.NodeText, Text: s} }
func listNode(l ...string) api.Node      { return api.Node{Kind: api.NodeList, List: l} }
func mapNode(l ...api.Keyed) api.Node    { return api.Node{Keys: l} }
func key(k string, n api.Node) api.Keyed { return api.Keyed{Key: k, Node: n} }

// node has a text for each word, the key ahead of its colon: "queue:8 first:5ms".
func node(s string) api.Node {
	n := mapNode()
	for _, word := range strings.Fields(s) {
		k, text, _ := strings.Cut(word, ":")
		n.Keys = append(n.Keys, key(k, textNode(text)))
	}
	return n
}

func attrsNode(s string) api.Node {
	on, s, _ := strings.Cut(s, " ")
	n := mapNode(key("kind", textNode("attributes")), key("on", textNode(on)), key("actions", listNode()))
	for part := range strings.SplitSeq(s, "; ") {
		n.Keys[2].Node.List = append(n.Keys[2].Node.List, part)
	}
	return n
}

// pipe is that of "logs/b: r c > p q > e f"; without processors "logs: r > e".
func pipe(name, s string) api.Pipe {
	word, _, _ := strings.Cut(name, "/")
	parts := strings.Split(s, ">")
	p := api.Pipe{
		Signal:    map[string]api.Signal{"traces": api.SignalTrace, "logs": api.SignalLog, "metrics": api.SignalMetric}[word],
		Name:      name,
		Receivers: strings.Fields(parts[0]),
		Exporters: strings.Fields(parts[len(parts)-1]),
	}
	if len(parts) > 2 {
		p.Procs = strings.Fields(parts[1])
	}
	return p
}

// config is of components and pipelines, one a line: "receiver r", "connector c", "exporter e queue:8 first:5ms", "attributes a item delete k; hash l", "filter f name == "x"", "batch b size:2 wait:10ms", "logs/b: r c > a b > e".
func config(l ...string) api.Config {
	var c api.Config
	for _, s := range l {
		word, s, _ := strings.Cut(s, " ")
		name, rest, _ := strings.Cut(s, " ")
		x := api.Comp{Name: name}
		switch word {
		case "receiver":
			c.Receivers = append(c.Receivers, x)
			continue
		case "connector":
			c.Conns = append(c.Conns, x)
			continue
		case "exporter":
			x.Node = node(rest)
			c.Exporters = append(c.Exporters, x)
			continue
		case "attributes":
			x.Node = attrsNode(rest)
		case "filter":
			x.Node = mapNode(key("kind", textNode(word)), key("drop", textNode(rest)))
		case "batch":
			x.Node = node("kind:batch " + rest)
		default:
			c.Pipes = append(c.Pipes, pipe(strings.TrimSuffix(word, ":"), s))
			continue
		}
		x.Kind = word
		c.Procs = append(c.Procs, x)
	}
	return c
}

// simple is a receiver, a pipeline of logs through these processors, and an exporter.
func simple(procs string, l ...string) api.Config {
	return config(append(l, "receiver r", "exporter e queue:1000", "logs: r > "+procs+" > e")...)
}

// rich has pipelines of each signal, processors of each kind, a connector, and several ways.
func rich() api.Config {
	return config("receiver r", "receiver s", "connector c", "exporter e queue:20 consumers:3 total:0s", "exporter f queue:20",
		"attributes a item upsert k int:1", "attributes on resource insert res text:x", "filter f name == \"x\"", "batch b size:3 max:4 wait:50ms", "batch d size:2 wait:20ms",
		"logs: r > a f b > c e", "logs/b: c > d a > e f", "traces: r s > b > e", "metrics: s > on f > f")
}

func rules() api.Rules { return api.Rules{MaxBody: api.MaxBytes, Idle: 1000} }

// empty is a disk that never fails.
func empty() api.Disk { return api.Disk{Fuse: -1, Fault: -1} }

func empties(n int) []api.Disk {
	return slices.Repeat([]api.Disk{empty()}, n)
}

// opened is the collector of c on empty disks.
func opened(c api.Config, limit int) api.Collector {
	out, why := collect.Open(c, rules(), limit, empties(len(c.Exporters)))
	if why != api.OK {
		panic(fmt.Sprint("Open: error ", why, " graph ", graph.Check(c)))
	}
	return out
}

func signals() []api.Signal {
	return []api.Signal{api.SignalTrace, api.SignalLog, api.SignalMetric}
}

// one is a right item of the signal; behind a + stand how many attributes it has, behind a / how many bytes more, about.
func one(s api.Signal, name string) api.Item {
	name, bytes, _ := strings.Cut(name, "/")
	name, many, _ := strings.Cut(name, "+")
	x := api.Item{Name: name}
	n, _ := strconv.Atoi(many)
	for i := range n {
		x.Attrs = append(x.Attrs, api.Pair{Key: "k" + strconv.Itoa(i)})
	}
	size, _ := strconv.Atoi(bytes)
	for i := 0; size > 0; i++ {
		part := min(size, 4000)
		x.Attrs = append(x.Attrs, api.Pair{Key: strconv.Itoa(i), Value: api.Value{Kind: api.KindText, S: strings.Repeat("x", part)}})
		size -= part
	}
	switch s {
	case api.SignalTrace:
		x.Trace, x.Span = "0123456789abcdef", "01234567"
	case api.SignalMetric:
		x.Kind, x.Point = api.MetricGauge, api.Point{Kind: api.PointFloat, F: math.NaN()}
	}
	return x
}

// data is of a signal, with items of these names, a group's scope ahead of its colon: "a:1 2".
func data(s api.Signal, groups ...string) api.Data {
	d := api.Data{Signal: s}
	for _, g := range groups {
		scope, names, _ := strings.Cut(g, ":")
		x := api.Group{Scope: scope}
		for _, name := range strings.Fields(names) {
			x.Items = append(x.Items, one(s, name))
		}
		d.Groups = append(d.Groups, x)
	}
	return d
}

func logs(groups ...string) api.Data { return data(api.SignalLog, groups...) }

// told is the opposite of data, but for attributes.
func told(d api.Data) []string {
	var out []string
	for _, g := range d.Groups {
		var l []string
		for _, x := range g.Items {
			l = append(l, x.Name)
		}
		out = append(out, g.Scope+":"+strings.Join(l, " "))
	}
	return out
}

// numbered is the names from one number to ahead of another one.
func numbered(from, to int) string {
	var l []string
	for i := from; i < to; i++ {
		l = append(l, strconv.Itoa(i))
	}
	return strings.Join(l, " ")
}

func write(d api.Data) string {
	s, why := trace.Write(d)
	if d.Signal == api.SignalMetric {
		s, why = metric.Write(d)
	}
	if why != api.OK {
		panic(why)
	}
	return s
}

func read(s string, as api.Signal) api.Data {
	d, why := trace.Read(s, as)
	if as == api.SignalMetric {
		d, why = metric.Read(s)
	}
	if why != api.OK {
		panic(why)
	}
	return d
}

func target(s api.Signal) string {
	return map[api.Signal]string{api.SignalTrace: "/v1/traces", api.SignalLog: "/v1/logs", api.SignalMetric: "/v1/metrics"}[s]
}

// post is the request of d, with these heads beside.
func post(d api.Data, heads ...api.Head) string {
	heads = append([]api.Head{{Name: "Content-Type", Value: "application/x-protobuf"}}, heads...)
	s, why := http.WriteRequest(api.Request{Method: "POST", Target: target(d.Signal), Heads: heads, Body: write(d)})
	if why != api.OK {
		panic(why)
	}
	return s
}

func closing(d api.Data) string { return post(d, api.Head{Name: "Connection", Value: "close"}) }

// got is the data of a request, as a backend reads it.
func got(t *testing.T, request string) api.Data {
	t.Helper()
	r, size, why := http.ReadRequest(request, api.MaxBytes)
	if why != api.OK || size != len(request) || r.Method != "POST" {
		t.Fatalf("request %s: error %d, %d of %d bytes", brief(request), why, size, len(request))
	}
	for _, s := range signals() {
		if r.Target == target(s) {
			return read(r.Body, s)
		}
	}
	t.Fatalf("request %s: target %s", brief(request), r.Target)
	return api.Data{}
}

// status is that of the first reply.
func status(s string) int {
	r, _, why := http.ReadResponse(s, api.MaxBytes)
	if why != api.OK {
		return -1
	}
	return r.Status
}

func connect(now uint64, receiver string) api.Move {
	return api.Move{Kind: api.MoveConnect, Now: now, Text: receiver}
}
func feed(now uint64, line int, s string) api.Move {
	return api.Move{Kind: api.MoveFeed, Now: now, Line: line, Text: s}
}
func look(now uint64, line int) api.Move {
	return api.Move{Kind: api.MoveLook, Now: now, Line: line}
}
func take(now uint64, line int) api.Move {
	return api.Move{Kind: api.MoveTake, Now: now, Line: line}
}
func tick(now uint64) api.Move { return api.Move{Kind: api.MoveTick, Now: now} }
func send(now uint64, exporter int) api.Move {
	return api.Move{Kind: api.MoveSend, Now: now, Exporter: exporter}
}
func reply(now uint64, exporter int, seq uint64, status int, s string) api.Move {
	return api.Move{Kind: api.MoveReply, Now: now, Exporter: exporter, Seq: seq, Status: status, Text: s}
}
func stop(now uint64) api.Move { return api.Move{Kind: api.MoveStop, Now: now} }
func crash(now uint64, keeps ...[]int) api.Move {
	return api.Move{Kind: api.MoveCrash, Now: now, Keeps: keeps}
}

// answer is what Do answers.
type answer struct {
	Collector api.Collector
	Out       api.Out
	Why       api.Errno
}

func do(c api.Collector, m api.Move) answer {
	var x answer
	x.Collector, x.Out, x.Why = collect.Do(c, m)
	return x
}

// becomes is an answer without an error.
func becomes(c api.Collector, out api.Out) answer { return answer{Collector: c, Out: out} }

// stays is that of a move that is refused.
func stays(c api.Collector, why api.Errno) answer { return becomes(c, api.Out{Why: why}) }

func refused(why api.Errno) answer { return answer{Why: why} }

func brief(x any) string {
	s := fmt.Sprintf("%+v", x)
	if len(s) > 3000 {
		s = s[:1500] + " .. " + s[len(s)-1400:]
	}
	return s
}

func check(t *testing.T, name string, got, want answer) {
	t.Helper()
	if !same(got, want) {
		got.Collector.Config, want.Collector.Config = api.Config{}, api.Config{}
		t.Errorf("%s: %s\nwant %s", name, brief(got), brief(want))
	}
}

func checkWhy(t *testing.T, name string, c api.Collector, want api.Errno) {
	t.Helper()
	if why := collect.Check(c); why != want {
		t.Errorf("Check of %s: error %d, want %d", name, why, want)
	}
}

// checkHeld tells how many items are held.
func checkHeld(t *testing.T, name string, c api.Collector, want int) {
	t.Helper()
	if n, why := collect.Held(c); n != uint64(want) || why != api.OK {
		t.Errorf("Held of %s: %d, error %d, want %d", name, n, why, want)
	}
}

// past is the collector behind these moves, none of which is refused.
func past(t *testing.T, c api.Collector, l ...api.Move) api.Collector {
	t.Helper()
	for i, m := range l {
		x := do(c, m)
		if x.Why != api.OK || x.Out.Why != api.OK {
			t.Fatalf("move %d, %s: error %d, told %d", i, brief(m), x.Why, x.Out.Why)
		}
		c = x.Collector
	}
	return c
}

// offered is the collector behind a request of d by a line of its own, and the reply's status.
func offered(t *testing.T, c api.Collector, now uint64, receiver string, d api.Data) (api.Collector, int) {
	t.Helper()
	c = past(t, c, connect(now, receiver))
	c = past(t, c, feed(now, c.Last, closing(d)), look(now, c.Last))
	x := do(c, take(now, c.Last))
	return x.Collector, status(x.Out.Text)
}

// accepted is the collector behind requests to r that are answered 200.
func accepted(t *testing.T, c api.Collector, now uint64, l ...api.Data) api.Collector {
	t.Helper()
	for _, d := range l {
		var status int
		if c, status = offered(t, c, now, "r", d); status != 200 {
			t.Fatalf("a request of %v is answered %d", told(d), status)
		}
	}
	return c
}

// drained is all that an exporter sends, each request being answered 200, and the collector behind that.
func drained(t *testing.T, c api.Collector, now uint64, exporter int) (api.Collector, []api.Data) {
	t.Helper()
	var l []api.Data
	for {
		x := do(c, send(now, exporter))
		if x.Out.Why != api.OK {
			return x.Collector, l
		}
		l = append(l, got(t, x.Out.Text))
		c = past(t, x.Collector, reply(now, exporter, x.Out.N, 200, ""))
	}
}

// checkGoes tells what an exporter sends, entry by entry.
func checkGoes(t *testing.T, name string, c api.Collector, exporter int, want ...string) {
	t.Helper()
	_, l := drained(t, c, 1<<50, exporter)
	var all []string
	for _, d := range l {
		all = append(all, strings.Join(told(d), ", "))
	}
	if !slices.Equal(all, want) {
		t.Errorf("%s: exporter %d sends %q, want %q", name, exporter, all, want)
	}
}

// counts are what a collector counts: Accepted, Refused, Removed, Lost.
func counts(c api.Collector) [4]uint64 { return [4]uint64{c.Accepted, c.Refused, c.Removed, c.Lost} }

func checkCounts(t *testing.T, name string, c api.Collector, want ...uint64) {
	t.Helper()
	if counts(c) != [4]uint64(want) {
		t.Errorf("%s: Accepted, Refused, Removed, Lost are %v, want %v", name, counts(c), want)
	}
}

// total is what became of all items that were offered, but for what is held.
func total(l api.Ledger) uint64 {
	return l.Delivered + l.Full + l.Long + l.Never + l.Spent + l.Rejected + l.Disk
}

// rawHeld is what is held, whether or not c is right.
func rawHeld(c api.Collector) uint64 {
	n := 0
	for _, s := range c.Slots {
		n += pdata.Items(s.Batch.Held)
	}
	all := uint64(n)
	for _, e := range c.Exporters {
		all += export.Held(e)
	}
	return all
}

func pick[T any](r *rand.Rand, l ...T) T { return l[r.IntN(len(l))] }

// same holds a and b against each other: floats by their bits, nil lists as empty ones.
func same(a, b any) bool { return sameOf(reflect.ValueOf(a), reflect.ValueOf(b)) }

func sameOf(a, b reflect.Value) bool {
	switch a.Kind() {
	case reflect.Struct:
		for i := range a.NumField() {
			if !sameOf(a.Field(i), b.Field(i)) {
				return false
			}
		}
		return true
	case reflect.Slice:
		for i := range min(a.Len(), b.Len()) {
			if !sameOf(a.Index(i), b.Index(i)) {
				return false
			}
		}
		return a.Len() == b.Len()
	case reflect.Float64:
		return math.Float64bits(a.Float()) == math.Float64bits(b.Float())
	case reflect.String:
		return a.String() == b.String()
	}
	return a.Interface() == b.Interface()
}

// twin is x with memory of its own, and room behind its lists.
func twin[T any](x T) T {
	out := reflect.New(reflect.TypeFor[T]()).Elem()
	twinOf(out, reflect.ValueOf(x))
	return out.Interface().(T)
}

func twinOf(to, from reflect.Value) {
	switch from.Kind() {
	case reflect.Struct:
		for i := range from.NumField() {
			twinOf(to.Field(i), from.Field(i))
		}
	case reflect.Slice:
		to.Set(reflect.MakeSlice(from.Type(), from.Len(), from.Len()+2))
		for i := range from.Len() {
			twinOf(to.Index(i), from.Index(i))
		}
	default:
		to.Set(from)
	}
}

// eachCell hands in each element of each list of x, however deep, and the room behind.
func eachCell(x reflect.Value, do func(reflect.Value)) {
	switch x.Kind() {
	case reflect.Struct:
		for i := range x.NumField() {
			eachCell(x.Field(i), do)
		}
	case reflect.Slice:
		all := x.Slice(0, x.Cap())
		for i := range all.Len() {
			eachCell(all.Index(i), do)
			do(all.Index(i))
		}
	}
}

// spoil writes over all elements of all lists of x, and what lies behind them.
func spoil(x any) {
	eachCell(reflect.ValueOf(x), func(v reflect.Value) { v.SetZero() })
}

// checkApart tells whether a cell is there twice.
func checkApart(t *testing.T, name string, all ...any) {
	t.Helper()
	type cell struct {
		at uintptr
		of reflect.Type
	}
	taken := map[cell]int{}
	for _, x := range all {
		eachCell(reflect.ValueOf(x), func(v reflect.Value) {
			at := cell{v.Addr().Pointer(), v.Type()}
			if taken[at]++; taken[at] == 2 {
				t.Errorf("%s: lists of %v share memory", name, v.Type())
			}
		})
	}
}

// conn is a connection behind a look at some request that came, which was answered.
func conn(s string) api.Conn {
	c, _ := server.Feed(api.Conn{}, rules(), s, 1)
	c, _, _, _ = server.Look(c, rules(), 2)
	return c
}

// parsed is the config of a text.
func parsed(t *testing.T, s string) api.Config {
	t.Helper()
	n, why, line := conf.Parse(s)
	if why != api.OK {
		t.Fatalf("line %d: error %d", line, why)
	}
	c, why := graph.Read(n)
	if why != api.OK {
		t.Fatalf("no graph: error %d", why)
	}
	return c
}
