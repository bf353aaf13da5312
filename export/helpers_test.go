package export_test

import (
	"fmt"
	"math"
	"math/rand/v2"
	"reflect"
	"slices"
	"strconv"
	"strings"
	"testing"

	"penstock/api"
	"penstock/disk"
	"penstock/export"
	"penstock/http"
	"penstock/metric"
	"penstock/pdata"
	"penstock/queue"
	"penstock/trace"
)

func textNode(s string) api.Node         { return api.Node{Kind: api.NodeText, Text: s} }
func listNode(l ...string) api.Node      { return api.Node{Kind: api.NodeList, List: l} }
func mapNode(l ...api.Keyed) api.Node    { return api.Node{Keys: l} }
func key(k string, n api.Node) api.Keyed { return api.Keyed{Key: k, Node: n} }

// node is an exporter's, with these keys, a text's behind its colon: "queue:8".
func node(l ...string) api.Node {
	n := mapNode()
	for _, s := range l {
		k, text, _ := strings.Cut(s, ":")
		n.Keys = append(n.Keys, key(k, textNode(text)))
	}
	return n
}

func rules(most, file, consumers int, first, longest, total uint64) api.ExportRules {
	return api.ExportRules{Most: most, File: file, Consumers: consumers, Retry: api.RetryRules{First: first, Most: longest, Total: total}}
}

// two are rules that most tests have: two requests may be under way.
func two() api.ExportRules { return rules(8, 4096, 2, 100, 500, 650) }

// with is two with so many entries, at most, and consumers.
func with(most, consumers int) api.ExportRules { return rules(most, 4096, consumers, 100, 500, 650) }

func signals() []api.Signal {
	return []api.Signal{api.SignalTrace, api.SignalLog, api.SignalMetric}
}

// one is a right item of the signal; behind a / stands how many bytes more it has, about: "x/20000".
func one(s api.Signal, name string) api.Item {
	name, more, _ := strings.Cut(name, "/")
	x := api.Item{Name: name}
	size, _ := strconv.Atoi(more)
	for i := 0; size > 0; i++ {
		n := min(size, 4000)
		x.Attrs = append(x.Attrs, api.Pair{Key: strconv.Itoa(i), Value: api.Value{Kind: api.KindText, S: strings.Repeat("x", n)}})
		size -= n
	}
	switch s {
	case api.SignalTrace:
		x.Trace, x.Span = "0123456789abcdef", "01234567"
	case api.SignalMetric:
		x.Kind, x.Point = api.MetricHist, api.Point{Kind: api.PointHist, Count: 3, Counts: []uint64{1, 2}, Bounds: []float64{1}}
	}
	return x
}

// data is of a signal, with items of these names, a group's scope behind its colon: "a:1 2".
func data(s api.Signal, groups ...string) api.Data {
	d := api.Data{Signal: s}
	for _, g := range groups {
		scope, names, _ := strings.Cut(g, ":")
		x := api.Group{Scope: scope}
		for _, name := range strings.Fields(names) {
			x.Items = append(x.Items, one(s, name))
		}
		d.Groups = append(d.Groups, x)
	}
	return d
}

func logs(groups ...string) api.Data { return data(api.SignalLog, groups...) }

// told is the opposite of data, but for how long items are.
func told(d api.Data) []string {
	var out []string
	for _, g := range d.Groups {
		var names []string
		for _, x := range g.Items {
			names = append(names, x.Name)
		}
		out = append(out, g.Scope+":"+strings.Join(names, " "))
	}
	return out
}

// names are those of all items.
func names(d api.Data) []string {
	var l []string
	for _, g := range d.Groups {
		for _, x := range g.Items {
			l = append(l, x.Name)
		}
	}
	return l
}

// numbered is the names from one number to ahead of another one.
func numbered(from, to int) string {
	var l []string
	for i := from; i < to; i++ {
		l = append(l, strconv.Itoa(i))
	}
	return strings.Join(l, " ")
}

func write(d api.Data) (string, api.Errno) {
	if d.Signal == api.SignalMetric {
		return metric.Write(d)
	}
	return trace.Write(d)
}

func read(s string, as api.Signal) (api.Data, api.Errno) {
	if as == api.SignalMetric {
		return metric.Read(s)
	}
	return trace.Read(s, as)
}

// entryData is what an entry of d has.
func entryData(d api.Data) string {
	s, why := write(d)
	if why != api.OK {
		panic(why)
	}
	return fmt.Sprint(int(d.Signal)) + s
}

// empty is a disk that never fails.
func empty() api.Disk { return api.Disk{Fuse: -1, Fault: -1} }

// queueOf has entries of these data.
func queueOf(r api.ExportRules, l ...string) api.Queue {
	q, why := queue.Open(empty(), r.File, r.Most)
	for _, s := range l {
		if why == api.OK {
			q, _, why = queue.Put(q, s)
		}
	}
	if why != api.OK {
		panic(why)
	}
	return q
}

// holding is an exporter that holds these.
func holding(r api.ExportRules, l ...api.Data) api.Exporter {
	var all []string
	for _, d := range l {
		all = append(all, entryData(d))
	}
	return api.Exporter{Queue: queueOf(r, all...)}
}

// lent has entries of these data, each handed out.
func lent(r api.ExportRules, l ...string) api.Exporter {
	q := queueOf(r, l...)
	for i := range q.Entries {
		q.Entries[i].Leased = true
	}
	return api.Exporter{Queue: q}
}

func flight(seq uint64, items int, waiting bool, tries int, since, next uint64) api.Flight {
	return api.Flight{Seq: seq, Items: items, Waiting: waiting, Retry: api.Retry{Tries: tries, Since: since, Next: next}}
}

// good has five entries: the first one's request waits for an answer, the third one's is sent again at 50, the fourth one is handed out to nobody.
func good() api.Exporter {
	e := holding(two(), logs("a:1 2"), logs("b:3"), data(api.SignalTrace, "c:4 5 6"), logs("d:7"), data(api.SignalMetric, "e:8"))
	for _, i := range []int{0, 2, 3} {
		e.Queue.Entries[i].Leased = true
	}
	e.Flights = []api.Flight{flight(1, 2, true, 0, 10, 0), flight(3, 3, false, 1, 20, 50)}
	e.Ledger = api.Ledger{Offered: 40, Delivered: 3, Full: 5, Long: 1, Never: 6, Spent: 8, Rejected: 7, Disk: 2}
	return e
}

func pick[T any](r *rand.Rand, l ...T) T { return l[r.IntN(len(l))] }

// same holds a and b against each other: floats by their bits, nil lists as empty ones.
func same(a, b any) bool { return sameOf(reflect.ValueOf(a), reflect.ValueOf(b)) }

func sameOf(a, b reflect.Value) bool {
	switch a.Kind() {
	case reflect.Struct:
		for i := range a.NumField() {
			if !sameOf(a.Field(i), b.Field(i)) {
				return false
			}
		}
		return true
	case reflect.Slice:
		for i := range min(a.Len(), b.Len()) {
			if !sameOf(a.Index(i), b.Index(i)) {
				return false
			}
		}
		return a.Len() == b.Len()
	case reflect.Float64:
		return math.Float64bits(a.Float()) == math.Float64bits(b.Float())
	}
	return a.Interface() == b.Interface()
}

// twin is x with memory of its own, and room behind its lists.
func twin[T any](x T) T {
	out := reflect.New(reflect.TypeFor[T]()).Elem()
	twinOf(out, reflect.ValueOf(x))
	return out.Interface().(T)
}

func twinOf(to, from reflect.Value) {
	switch from.Kind() {
	case reflect.Struct:
		for i := range from.NumField() {
			twinOf(to.Field(i), from.Field(i))
		}
	case reflect.Slice:
		to.Set(reflect.MakeSlice(from.Type(), from.Len(), from.Len()+2))
		for i := range from.Len() {
			twinOf(to.Index(i), from.Index(i))
		}
	default:
		to.Set(from)
	}
}

// eachCell hands in each element of each list of x, however deep, and the room behind.
func eachCell(x reflect.Value, do func(reflect.Value)) {
	switch x.Kind() {
	case reflect.Struct:
		for i := range x.NumField() {
			eachCell(x.Field(i), do)
		}
	case reflect.Slice:
		all := x.Slice(0, x.Cap())
		for i := range all.Len() {
			eachCell(all.Index(i), do)
			do(all.Index(i))
		}
	}
}

// spoil writes over all elements of all lists of x, and what lies behind them.
func spoil(x any) {
	eachCell(reflect.ValueOf(x), func(v reflect.Value) { v.SetZero() })
}

// checkApart tells whether a cell is there twice.
func checkApart(t *testing.T, name string, all ...any) {
	t.Helper()
	type cell struct {
		at uintptr
		of reflect.Type
	}
	taken := map[cell]int{}
	for _, x := range all {
		eachCell(reflect.ValueOf(x), func(v reflect.Value) {
			at := cell{v.Addr().Pointer(), v.Type()}
			if taken[at]++; taken[at] > 1 {
				t.Errorf("%s: lists of %v share memory", name, v.Type())
			}
		})
	}
}

// answer is what a call answers; Seq and Request are Send's alone.
type answer struct {
	Exporter api.Exporter
	Seq      uint64
	Request  string
	Why      api.Errno
}

func offer(e api.Exporter, r api.ExportRules, d api.Data) answer {
	var x answer
	x.Exporter, x.Why = export.Offer(e, r, d)
	return x
}

func send(e api.Exporter, r api.ExportRules, now uint64) answer {
	var x answer
	x.Exporter, x.Seq, x.Request, x.Why = export.Send(e, r, now)
	return x
}

func reply(e api.Exporter, r api.ExportRules, seq uint64, status int, body string, now uint64) answer {
	var x answer
	x.Exporter, x.Why = export.Reply(e, r, seq, status, body, now)
	return x
}

func crash(e api.Exporter, r api.ExportRules, keeps ...int) answer {
	var x answer
	x.Exporter, x.Why = export.Crash(e, r, keeps)
	return x
}

func opened(d api.Disk, r api.ExportRules) answer {
	var x answer
	x.Exporter, x.Why = export.Open(d, r)
	return x
}

func refused(why api.Errno) answer  { return answer{Why: why} }
func becomes(e api.Exporter) answer { return answer{Exporter: e} }
func goes(e api.Exporter, seq uint64, request string) answer {
	return answer{Exporter: e, Seq: seq, Request: request}
}

func brief(s string) string {
	if len(s) > 60 {
		return strconv.Quote(s[:60]) + ".. of " + strconv.Itoa(len(s))
	}
	return strconv.Quote(s)
}

func (x answer) String() string {
	q := x.Exporter.Queue
	s := fmt.Sprintf("error %d, number %d, request %s, ledger %+v, flights %+v, Most %d, log Size %d, From %d, Next %d, Broken %v, disk Down %v, Fuse %d, Fault %d",
		x.Why, x.Seq, brief(x.Request), x.Exporter.Ledger, x.Exporter.Flights, q.Most, q.Log.Size, q.Log.From, q.Log.Next, q.Log.Broken, q.Log.Disk.Down, q.Log.Disk.Fuse, q.Log.Disk.Fault)
	s += fmt.Sprintf(", %d entries:", len(q.Entries))
	for _, e := range q.Entries[:min(len(q.Entries), 9)] {
		s += fmt.Sprintf(" %d %s %v", e.Seq, brief(e.Data), e.Leased)
	}
	s += fmt.Sprintf(", %d files:", len(q.Log.Disk.Files))
	for _, f := range q.Log.Disk.Files[:min(len(q.Log.Disk.Files), 9)] {
		s += fmt.Sprintf(" %s of %d, %d safe", f.Name, len(f.Data), f.Synced)
	}
	return s
}

func check(t *testing.T, name string, got, want answer) {
	t.Helper()
	if !same(got, want) {
		t.Errorf("%s: %v\nwant %v", name, got, want)
	}
}

// asked is the request of an entry's data, written out.
func asked(target, body string) string {
	return "POST " + target + " HTTP/1.1\r\nHost: backend\r\nContent-Type: application/x-protobuf\r\nContent-Length: " + strconv.Itoa(len(body)) + "\r\n\r\n" + body
}

// targets are where the signals' requests go.
func targets() map[string]api.Signal {
	return map[string]api.Signal{"/v1/traces": api.SignalTrace, "/v1/logs": api.SignalLog, "/v1/metrics": api.SignalMetric}
}

// got is the data of a request, as a backend reads it.
func got(t *testing.T, request string) api.Data {
	t.Helper()
	r, size, why := http.ReadRequest(request, api.MaxBytes)
	if why != api.OK || size != len(request) || r.Method != "POST" {
		t.Fatalf("request %s: error %d, %d of %d bytes", brief(request), why, size, len(request))
	}
	d, why := read(r.Body, targets()[r.Target])
	if why != api.OK {
		t.Fatalf("request %s: error %d", brief(request), why)
	}
	return d
}

// failing is a disk that fails at the change of that number, by a fault, or by the power that goes.
func failing(e api.Exporter, at int, power bool) api.Exporter {
	if power {
		e.Queue.Log.Disk.Fuse = at
	} else {
		e.Queue.Log.Disk.Fault = at
	}
	return e
}

// total is what became of all items that were offered, but for what is held.
func total(l api.Ledger) uint64 {
	return l.Delivered + l.Full + l.Long + l.Never + l.Spent + l.Rejected + l.Disk
}

// span is the items of d from one number to ahead of another one, in groups as they stood.
func span(d api.Data, from, to int) api.Data {
	out := api.Data{Signal: d.Signal}
	at := 0
	for _, g := range d.Groups {
		var l []api.Item
		for _, x := range g.Items {
			if at >= from && at < to {
				l = append(l, x)
			}
			at++
		}
		if len(l) > 0 {
			g.Items = l
			out.Groups = append(out.Groups, g)
		}
	}
	return out
}

// fits tells whether d is one entry's.
func fits(d api.Data) bool {
	s, why := write(d)
	return why == api.OK && len(s) <= api.MaxBytes-2
}

// model is an exporter as the chapter tells of it, its queue being package queue's.
type model struct {
	rules   api.ExportRules
	queue   api.Queue
	flights map[uint64]api.Flight
	ledger  api.Ledger
}

func modelOf(e api.Exporter, r api.ExportRules) *model {
	m := &model{rules: r, queue: e.Queue, flights: map[uint64]api.Flight{}, ledger: e.Ledger}
	for _, f := range e.Flights {
		m.flights[f.Seq] = f
	}
	return m
}

func (m *model) exporter() api.Exporter {
	e := api.Exporter{Queue: m.queue, Ledger: m.ledger}
	for _, entry := range m.queue.Entries {
		if f, is := m.flights[entry.Seq]; is {
			e.Flights = append(e.Flights, f)
		}
	}
	return e
}

func (m *model) offer(d api.Data) answer {
	n := pdata.Items(d)
	m.ledger.Offered += uint64(n)
	for from := 0; from < n; {
		to := from
		for to < n && fits(span(d, from, to+1)) {
			to++
		}
		if to == from {
			m.ledger.Long++
			from++
			continue
		}
		q, _, why := queue.Put(m.queue, entryData(span(d, from, to)))
		m.queue = q
		if why == api.ErrFull && !q.Log.Broken {
			m.ledger.Full += uint64(to - from)
		} else if why != api.OK {
			m.ledger.Disk += uint64(to - from)
		}
		from = to
	}
	return becomes(m.exporter())
}

func itemsOf(s string) int {
	if s == "" || !strings.Contains("123", s[:1]) {
		return 0
	}
	d, _ := read(s[1:], api.Signal(s[0]-'0'))
	return pdata.Items(d)
}

func requestOf(s string) string {
	if s == "" {
		return asked("/", "")
	}
	for target, as := range targets() {
		if s[0] == '0'+byte(as) {
			return asked(target, s[1:])
		}
	}
	return asked("/", s[1:])
}

func (m *model) send(now uint64) answer {
	for i, entry := range m.queue.Entries {
		f, is := m.flights[entry.Seq]
		if is && !f.Waiting && f.Retry.Next <= now {
			f.Waiting = true
			m.flights[entry.Seq] = f
			return goes(m.exporter(), entry.Seq, requestOf(m.queue.Entries[i].Data))
		}
	}
	if len(m.flights) >= m.rules.Consumers {
		return refused(api.ErrUnknown)
	}
	q, entry, why := queue.Lease(m.queue)
	if why != api.OK {
		return refused(api.ErrUnknown)
	}
	m.queue = q
	m.flights[entry.Seq] = flight(entry.Seq, itemsOf(entry.Data), true, 0, now, 0)
	return goes(m.exporter(), entry.Seq, requestOf(entry.Data))
}

// waits is behind so many tries, in small numbers.
func (m *model) waits(tries int) uint64 {
	return min(m.rules.Retry.First<<min(tries, 20), m.rules.Retry.Most)
}

func (m *model) reply(seq uint64, status int, body string, now uint64) answer {
	f := m.flights[seq]
	if !f.Waiting {
		return refused(api.ErrLease)
	}
	n := uint64(f.Items)
	switch {
	case slices.Contains([]int{0, 429, 502, 503, 504}, status):
		w := m.waits(f.Retry.Tries)
		if now < f.Retry.Since {
			return refused(api.ErrRange)
		}
		if m.rules.Retry.Total == 0 || now-f.Retry.Since+w <= m.rules.Retry.Total {
			f.Waiting, f.Retry.Tries, f.Retry.Next = false, f.Retry.Tries+1, now+w
			m.flights[seq] = f
			return becomes(m.exporter())
		}
		m.ledger.Spent += n
	case status >= 200 && status < 300:
		p, _ := trace.ReadReply(body)
		lost := min(uint64(p.Rejected), n)
		m.ledger.Rejected += lost
		m.ledger.Delivered += n - lost
	default:
		m.ledger.Never += n
	}
	delete(m.flights, seq)
	m.queue, _ = queue.Ack(m.queue, seq)
	return becomes(m.exporter())
}

func (m *model) crash(keeps []int) answer {
	d, why := disk.Crash(m.queue.Log.Disk, keeps)
	if why != api.OK {
		return refused(why)
	}
	q, why := queue.Open(d, m.rules.File, m.rules.Most)
	if why != api.OK {
		return refused(why)
	}
	m.queue = q
	clear(m.flights)
	return becomes(m.exporter())
}
