package collect_test

import (
	"fmt"
	"math"
	"slices"
	"strings"
	"testing"

	"penstock/api"
	"penstock/collect"
	"penstock/export"
	"penstock/queue"
)

// opening is what Open is given.
type opening struct {
	Config api.Config
	Rules  api.Rules
	Limit  int
	Disks  []api.Disk
}

func (o opening) do() (api.Collector, api.Errno) {
	return collect.Open(o.Config, o.Rules, o.Limit, o.Disks)
}

func checkOpen(t *testing.T, name string, o opening, want api.Collector, wantWhy api.Errno) {
	t.Helper()
	c, why := o.do()
	if !same(c, want) || why != wantWhy {
		t.Errorf("Open of %s: error %d, %s\nwant %d, %s", name, why, brief(c), wantWhy, brief(want))
	}
	if why == api.OK {
		checkWhy(t, "what is opened of "+name, c, api.OK)
	}
}

// wide has each kind of processors three times, three exporters, and pipelines that have some of each.
func wide() opening {
	c := config("receiver r", "connector c", "exporter e", "exporter f queue:3", "exporter g consumers:2",
		"attributes a0 item delete k", "filter f0 name == \"x\"", "batch b0 size:2",
		"attributes a1 item delete k", "filter f1 name == \"x\"", "batch b1 size:2",
		"attributes a2 item delete k", "filter f2 name == \"x\"", "batch b2 size:2",
		"logs: r > b1 b2 > c", "logs/b: c > f1 a1 b0 b1 > e f", "traces: r > f0 > g")
	return opening{c, rules(), 100, empties(3)}
}

// setKey puts a text into the node of a component.
func setKey(x *api.Comp, k string, n api.Node) {
	for i := range x.Node.Keys {
		if x.Node.Keys[i].Key == k {
			x.Node.Keys[i].Node = n
			return
		}
	}
	x.Node.Keys = append(x.Node.Keys, key(k, n))
}

// fault is something that is wrong with an opening, at some place in the order in which it is looked at.
type fault struct {
	name  string
	place int
	make  func(*opening)
	why   api.Errno
}

// torn is a disk that fails when it is opened, since something must be cut off.
func torn() api.Disk {
	return api.Disk{Fuse: -1, Fault: 0, Files: []api.File{{Name: "0000000000000001", Data: "torn", Synced: 4}}}
}

// crowded is a disk whose log has more entries than a queue may have.
func crowded() api.Disk {
	q, _ := queue.Open(empty(), api.MaxFile, api.MaxItems)
	for range api.MaxItems {
		q, _, _ = queue.Put(q, "x")
	}
	q.Entries = nil
	q, _, why := queue.Put(q, "x")
	if why != api.OK {
		panic(why)
	}
	return q.Log.Disk
}

func graphFaults() []fault {
	return []fault{
		{"too many receivers", 0, func(o *opening) {
			o.Config.Receivers = append(o.Config.Receivers, make([]api.Comp, 32)...)
		}, api.ErrMany},
		{"a name that is there twice", 0, func(o *opening) { o.Config.Exporters[1].Name = "e" }, api.ErrConf},
		{"a kind that is none", 0, func(o *opening) { o.Config.Procs[4].Kind = "x" }, api.ErrConf},
		{"a node that is none", 0, func(o *opening) { setKey(&o.Config.Procs[8], "wait", api.Node{Kind: 7}) }, api.ErrConf},
		{"a pipeline of no signal", 0, func(o *opening) { o.Config.Pipes[1].Signal = 0 }, api.ErrType},
		{"a processor that is none", 0, func(o *opening) { o.Config.Pipes[2].Procs[0] = "x" }, api.ErrUnknown},
		{"a ring", 0, func(o *opening) { o.Config.Pipes[0].Receivers[0] = "c" }, api.ErrCycle},
	}
}

// rangeFaults stand at the edges.
func rangeFaults() []fault {
	return []fault{
		{"MaxBody below 0", 1, func(o *opening) { o.Rules.MaxBody = -1 }, api.ErrRange},
		{"MaxBody of one more", 1, func(o *opening) { o.Rules.MaxBody = api.MaxBytes + 1 }, api.ErrRange},
		{"the least MaxBody", 1, func(o *opening) { o.Rules.MaxBody = math.MinInt }, api.ErrRange},
		{"Limit below 0", 1, func(o *opening) { o.Limit = -1 }, api.ErrRange},
		{"Limit 2^31", 1, func(o *opening) { o.Limit = 1 << 31 }, api.ErrRange},
		{"the greatest Limit", 1, func(o *opening) { o.Limit = math.MaxInt }, api.ErrRange},
		{"the least Limit", 1, func(o *opening) { o.Limit = math.MinInt }, api.ErrRange},
		{"a disk fewer", 1, func(o *opening) { o.Disks = o.Disks[1:] }, api.ErrRange},
		{"no disks", 1, func(o *opening) { o.Disks = nil }, api.ErrRange},
		{"a disk more", 1, func(o *opening) { o.Disks = append(o.Disks, empty()) }, api.ErrRange},
	}
}

// manySteps is a predicate of more steps than there may be.
func manySteps() string { return strings.Repeat("true and ", 150) + "true" }

// nodeFaults are of each processor, then of each exporter, each in two ways.
func nodeFaults() []fault {
	var l []fault
	add := func(place int, what string, x func(*opening) *api.Comp, k string, n api.Node, why api.Errno) {
		l = append(l, fault{fmt.Sprint(what, " ", place), place, func(o *opening) { setKey(x(o), k, n) }, why})
	}
	for i := range 9 {
		proc := func(o *opening) *api.Comp { return &o.Config.Procs[i] }
		switch i % 3 {
		case 0:
			add(2+i, "actions that are none", proc, "actions", listNode("delete k", "x"), api.ErrConf)
			add(2+i, "a key that is no UTF-8", proc, "actions", listNode("delete \xff"), api.ErrUtf)
		case 1:
			add(2+i, "a predicate that is none", proc, "drop", textNode("x"), api.ErrConf)
			add(2+i, "a predicate of many steps", proc, "drop", textNode(manySteps()), api.ErrMany)
		case 2:
			add(2+i, "another key of a batch", proc, "x", textNode("1"), api.ErrConf)
			add(2+i, "a batch of none", proc, "size", textNode("0"), api.ErrRange)
		}
	}
	for i := range 3 {
		exporter := func(o *opening) *api.Comp { return &o.Config.Exporters[i] }
		add(11+i, "another key of an exporter", exporter, "x", textNode("1"), api.ErrConf)
		add(11+i, "a queue of none", exporter, "queue", textNode("0"), api.ErrRange)
	}
	return l
}

// diskFaults stay away, if there are too few disks.
func diskFaults() []fault {
	var l []fault
	wrong := api.Disk{Files: []api.File{{Name: "x", Synced: 1}}}
	for i := range 3 {
		add := func(name string, d api.Disk, why api.Errno) {
			l = append(l, fault{fmt.Sprint(name, " ", i), 14 + i, func(o *opening) {
				if i < len(o.Disks) {
					o.Disks[i] = d
				}
			}, why})
		}
		add("a disk that is not right", wrong, api.ErrState)
		add("a disk that is down", api.Disk{Down: true, Fuse: -1, Fault: -1}, api.ErrDown)
		add("a disk that fails", torn(), api.ErrDisk)
		add("a disk of too many entries", crowded(), api.ErrMany)
	}
	return l
}

// TestP191OpenRefused has each fault alone, and each two: the first one is told.
func TestP191OpenRefused(t *testing.T) {
	all := slices.Concat(graphFaults(), rangeFaults(), nodeFaults(), diskFaults())
	checkOpen(t, "what is right", wide(), opened(wide().Config, 100), api.OK)
	for _, first := range all {
		o := wide()
		first.make(&o)
		checkOpen(t, first.name, o, api.Collector{}, first.why)
		for _, second := range all {
			if second.place <= first.place {
				continue
			}
			o := wide()
			first.make(&o)
			second.make(&o)
			if c, why := o.do(); why != first.why || !same(c, api.Collector{}) {
				t.Errorf("Open of %s and %s: error %d, want %d", first.name, second.name, why, first.why)
			}
		}
	}
}

// TestP191Edges has what is just right.
func TestP191Edges(t *testing.T) {
	for _, limit := range []int{0, 1, math.MaxInt32 - 1, math.MaxInt32} {
		for _, r := range []api.Rules{{}, {MaxBody: 1}, {MaxBody: api.MaxBytes, Idle: math.MaxUint64}} {
			o := wide()
			o.Limit, o.Rules = limit, r
			want := opened(o.Config, 100)
			want.Limit, want.Rules = limit, r
			checkOpen(t, fmt.Sprint("Limit ", limit), o, want, api.OK)
		}
	}
}

func slot(pipe, proc int) api.Slot { return api.Slot{Pipe: pipe, Proc: proc} }

// TestP191Open has configs with no, one and many pipelines.
func TestP191Open(t *testing.T) {
	fresh := func(n int) []api.Exporter {
		var l []api.Exporter
		for range n {
			e, _ := export.Open(empty(), api.ExportRules{Most: 8, File: 4096, Consumers: 1, Retry: api.RetryRules{First: 100, Most: 1000, Total: 10000}})
			l = append(l, e)
		}
		return l
	}
	batches := []string{"receiver r", "connector c", "connector d", "exporter e", "exporter f", "batch x", "batch y size:2", "filter z true"}
	for name, want := range map[string]struct {
		config api.Config
		slots  []api.Slot
	}{
		"nothing":                     {api.Config{}, nil},
		"components alone":            {config("receiver r", "exporter e", "batch b"), nil},
		"one pipeline":                {config("receiver r", "exporter e", "logs: r > e"), nil},
		"a batch":                     {config(append(batches[:1:1], append(batches[3:], "logs: r > x > e")...)...), []api.Slot{slot(0, 0)}},
		"batches among others":        {config(append(batches[:1:1], append(batches[3:], "logs: r > z y x > e", "traces: r > x z > f")...)...), []api.Slot{slot(0, 1), slot(0, 2), slot(1, 0)}},
		"pipelines in another order":  {config(append(batches, "logs: d > x > e", "logs/b: c > z y > d", "logs/c: r > y z x > c")...), []api.Slot{slot(2, 0), slot(2, 2), slot(1, 1), slot(0, 0)}},
		"pipelines, the least first":  {config(append(batches, "logs: c > x > d", "logs/b: r > y > f", "logs/c: r > y > c", "logs/d: d > x > e")...), []api.Slot{slot(1, 0), slot(2, 0), slot(0, 0), slot(3, 0)}},
		"one batch in many pipelines": {config(append(batches[:1:1], append(batches[3:], "logs: r > x > e", "traces: r > x > e", "metrics: r > x > e")...)...), []api.Slot{slot(0, 0), slot(1, 0), slot(2, 0)}},
	} {
		n := len(want.config.Exporters)
		c := api.Collector{Config: want.config, Rules: rules(), Limit: 7, Slots: want.slots, Exporters: fresh(n)}
		checkOpen(t, name, opening{want.config, rules(), 7, empties(n)}, c, api.OK)
		checkHeld(t, name, c, 0)
	}
}

// TestP191OpenDisks has disks that hold a queue already, each the one of its exporter.
func TestP191OpenDisks(t *testing.T) {
	o := wide()
	c := opened(o.Config, 100)
	c = accepted(t, c, 5, logs("a:1 2 3"), data(api.SignalTrace, "t:4"))
	for i, e := range c.Exporters {
		o.Disks[i] = e.Queue.Log.Disk
	}
	o.Config.Exporters[0].Node = node("queue:9 file:100")
	o.Disks[1].Fault, o.Disks[1].Fuse = 5, 6
	got, why := o.do()
	if why != api.OK {
		t.Fatalf("Open: error %d", why)
	}
	for i, e := range got.Exporters {
		r, _ := export.Read(o.Config.Exporters[i].Node)
		want, _ := export.Open(o.Disks[i], r)
		if !same(e, want) || export.Held(e) != export.Held(c.Exporters[i]) || e.Ledger != (api.Ledger{}) {
			t.Errorf("exporter %d: %+v, want %+v", i, e, want)
		}
	}
	checkHeld(t, "what is opened", got, 3+3+1)
}

// good has three lines, items in both kinds of slots, and exporters with requests under way.
func good(t *testing.T) api.Collector {
	t.Helper()
	c := opened(rich(), 1000)
	c = past(t, c, connect(1, "r"), connect(1, "s"), connect(1, "r"), connect(2, "s"))
	c = past(t, c, feed(2, 1, post(logs("a:1 2", "b:3", "a:4 5"))), look(2, 1))
	c = past(t, c, feed(3, 2, post(data(api.SignalTrace, "t:6 7"))+"POST"), look(3, 2))
	c = past(t, c, feed(4, 4, post(data(api.SignalMetric, "m:8 x 9"))), look(4, 4))
	c = past(t, c, feed(5, 3, "x\r\n"), look(5, 3), take(5, 3)) // which is no more
	c = past(t, c, send(6, 0), send(6, 0), send(6, 1))
	c = past(t, c, reply(7, 0, 1, 503, ""))
	if len(c.Lines) != 3 || rawHeld(c) != 17 || len(c.Exporters[0].Flights) != 2 || len(c.Exporters[1].Flights) != 1 {
		t.Fatalf("this is no good one: %d lines, %d held, %+v", len(c.Lines), rawHeld(c), c.Exporters)
	}
	return c
}

// change is something that is done to a good collector.
type change struct {
	name string
	make func(*api.Collector)
}

// wrongConfigs are faults of openings, but for those that are no matter to a collector.
func wrongConfigs() []change {
	return []change{
		{"a graph that is none", func(c *api.Collector) { c.Config.Pipes[0].Signal = 0 }},
		{"too many receivers", func(c *api.Collector) { c.Config.Receivers = append(c.Config.Receivers, make([]api.Comp, 31)...) }},
		{"actions that are none", func(c *api.Collector) { setKey(&c.Config.Procs[0], "x", textNode("")) }},
		{"a predicate that is none", func(c *api.Collector) { setKey(&c.Config.Procs[2], "drop", textNode("x")) }},
		{"a batch that is none", func(c *api.Collector) { setKey(&c.Config.Procs[3], "size", textNode("0")) }},
		{"an exporter that is none", func(c *api.Collector) { setKey(&c.Config.Exporters[1], "queue", textNode("0")) }},
		{"a processor without use that is none", func(c *api.Collector) {
			c.Config.Procs = append(c.Config.Procs, api.Comp{Name: "new", Kind: "filter"})
		}},
		{"no config", func(c *api.Collector) { c.Config = api.Config{} }},
		{"an exporter fewer in the config", func(c *api.Collector) {
			c.Config.Exporters = c.Config.Exporters[:1]
			c.Config.Pipes = c.Config.Pipes[:0]
			c.Config.Conns, c.Slots = nil, nil
		}},
		{"rules below", func(c *api.Collector) { c.Rules.MaxBody = -1 }},
		{"rules above", func(c *api.Collector) { c.Rules.MaxBody = api.MaxBytes + 1 }},
		{"rules below, without lines", func(c *api.Collector) { c.Rules.MaxBody, c.Lines = -1, nil }},
		{"Limit below 0", func(c *api.Collector) { c.Limit = -1 }},
		{"Limit 2^31", func(c *api.Collector) { c.Limit = 1 << 31 }},
	}
}

func wrongLines() []change {
	return []change{
		{"an Id of 0", func(c *api.Collector) { c.Lines[0].Id = 0 }},
		{"an Id below 0", func(c *api.Collector) { c.Lines[0].Id = -1 }},
		{"an Id twice", func(c *api.Collector) { c.Lines[1].Id = 1 }},
		{"Ids that fall", func(c *api.Collector) { c.Lines[0].Id, c.Lines[1].Id = 2, 1 }},
		{"Ids that fall in the end", func(c *api.Collector) { c.Lines[1].Id, c.Lines[2].Id = 3, 2 }},
		{"Last below", func(c *api.Collector) { c.Last = 3 }},
		{"Last of 0", func(c *api.Collector) { c.Last = 0 }},
		{"Last below 0", func(c *api.Collector) { c.Last = math.MinInt }},
		{"an Id above Last", func(c *api.Collector) { c.Lines[2].Id = 5 }},
		{"a receiver that is none", func(c *api.Collector) { c.Lines[1].Receiver = "x" }},
		{"no receiver", func(c *api.Collector) { c.Lines[0].Receiver = "" }},
		{"a connector for a receiver", func(c *api.Collector) { c.Lines[2].Receiver = "c" }},
		{"an exporter for a receiver", func(c *api.Collector) { c.Lines[2].Receiver = "e" }},
		{"a closed conn that is busy", func(c *api.Collector) { c.Lines[0].Conn.Closed, c.Lines[0].Conn.Busy = true, true }},
		{"a conn's Last", func(c *api.Collector) { c.Lines[2].Conn.Last = true }},
		{"a conn of too much", func(c *api.Collector) { c.Lines[1].Conn.Buf = strings.Repeat("x", api.MaxBuf+1) }},
		{"a conn that answers too much", func(c *api.Collector) { c.Lines[1].Conn.Out = strings.Repeat("x", api.MaxBuf+1) }},
	}
}

// wrongParts are of slots and of exporters.
func wrongParts() []change {
	hold := func(at int, d api.Data) func(*api.Collector) {
		return func(c *api.Collector) { c.Slots[at].Batch.Held = d }
	}
	return []change{
		{"a slot fewer", func(c *api.Collector) { c.Slots = c.Slots[:len(c.Slots)-1] }},
		{"the first slot fewer", func(c *api.Collector) { c.Slots = c.Slots[1:] }},
		{"no slots", func(c *api.Collector) { c.Slots = nil }},
		{"a slot more", func(c *api.Collector) { c.Slots = append(c.Slots, slot(2, 1)) }},
		{"a slot twice", func(c *api.Collector) { c.Slots = append(c.Slots, c.Slots[2]) }},
		{"slots in another order", func(c *api.Collector) { c.Slots[0], c.Slots[1] = c.Slots[1], c.Slots[0] }},
		{"a slot of another pipeline", func(c *api.Collector) { c.Slots[1].Pipe = 0 }},
		{"a slot of no pipeline", func(c *api.Collector) { c.Slots[0].Pipe = -1 }},
		{"a slot of a pipeline beyond", func(c *api.Collector) { c.Slots[2].Pipe = 4 }},
		{"a slot of another processor", func(c *api.Collector) { c.Slots[0].Proc = 1 }},
		{"a slot of no processor", func(c *api.Collector) { c.Slots[2].Proc = -1 }},
		{"a slot of a processor beyond", func(c *api.Collector) { c.Slots[0].Proc = 3 }},
		{"a slot of another signal", hold(0, data(api.SignalTrace, "a:1"))},
		{"the last slot of another signal", hold(2, logs("a:1"))},
		{"a slot of no signal", hold(1, api.Data{Groups: []api.Group{{Items: make([]api.Item, 1)}}})},
		{"a slot of too many items", hold(0, logs("a:1 2 3"))},
		{"a slot of groups that are alike", hold(0, logs("a:1", "a:2"))},
		{"a slot of a group without items", hold(1, logs("a:"))},
		{"a slot of an item that is none", hold(0, logs("a:\xff"))},
		{"an exporter fewer", func(c *api.Collector) { c.Exporters = c.Exporters[:1] }},
		{"no exporters", func(c *api.Collector) { c.Exporters = nil }},
		{"an exporter more", func(c *api.Collector) { c.Exporters = append(c.Exporters, c.Exporters[0]) }},
		{"exporters in another order", func(c *api.Collector) { slices.Reverse(c.Exporters) }},
		{"no queue", func(c *api.Collector) { c.Exporters[0] = api.Exporter{} }},
		{"no queue in the end", func(c *api.Collector) { c.Exporters[1] = api.Exporter{} }},
		{"a flight of other items", func(c *api.Collector) { c.Exporters[0].Flights[1].Items++ }},
		{"a flight more than consumers", func(c *api.Collector) {
			e := &c.Exporters[1]
			e.Queue.Entries[1].Leased = true
			e.Flights = append(e.Flights, api.Flight{Seq: e.Queue.Entries[1].Seq, Items: 3})
		}},
		{"entries that fall", func(c *api.Collector) { slices.Reverse(c.Exporters[1].Queue.Entries) }},
		{"a disk that is not right", func(c *api.Collector) { c.Exporters[1].Queue.Log.Disk.Files[0].Synced = -1 }},
	}
}

// TestP191CheckWrong has collectors that are not right, for each reason; all calls say so, and nothing else.
func TestP191CheckWrong(t *testing.T) {
	for _, x := range slices.Concat(wrongConfigs(), wrongLines(), wrongParts()) {
		c := good(t)
		c = twin(c)
		x.make(&c)
		checkWhy(t, x.name, c, api.ErrState)
		if n, why := collect.Held(c); n != 0 || why != api.ErrState {
			t.Errorf("Held of %s: %d, error %d", x.name, n, why)
		}
		for kind := range api.MoveKind(12) {
			check(t, "Do of "+x.name, do(c, api.Move{Kind: kind, Text: "r", Line: 1, Seq: 1, Status: 200}), refused(api.ErrState))
		}
	}
}

// TestP191CheckRight has collectors made by hand that are right.
func TestP191CheckRight(t *testing.T) {
	checkWhy(t, "nothing", api.Collector{}, api.OK)
	for _, x := range []change{
		{"as it is", func(*api.Collector) {}},
		{"Last above", func(c *api.Collector) { c.Last = math.MaxInt }},
		{"the greatest Id", func(c *api.Collector) { c.Last, c.Lines[2].Id = math.MaxInt, math.MaxInt }},
		{"no lines, Last below 0", func(c *api.Collector) { c.Lines, c.Last = nil, -5 }},
		{"more lines than connect", func(c *api.Collector) {
			c.Lines, c.Last = nil, 100
			for i := range 100 {
				c.Lines = append(c.Lines, api.Line{Id: i + 1, Receiver: "s", Conn: api.Conn{Busy: true, Last: true}})
			}
		}},
		{"lines that are full", func(c *api.Collector) {
			c.Lines[0].Conn = api.Conn{Buf: strings.Repeat("x", api.MaxBuf), Out: strings.Repeat("x", api.MaxBuf), Busy: true}
		}},
		{"a line that is closed", func(c *api.Collector) { c.Lines[0].Conn = api.Conn{Closed: true, Out: "x"} }},
		{"slots that hold nothing", func(c *api.Collector) {
			c.Slots[0].Batch = api.Batch{Since: 9}
			c.Slots[1].Batch = api.Batch{Held: api.Data{Signal: api.SignalTrace}}
			c.Slots[2].Batch = api.Batch{Held: api.Data{Signal: 77, Groups: []api.Group{}}}
		}},
		{"slots of as much as may be", func(c *api.Collector) { c.Slots[0].Batch.Held = logs("a:1", "b:2") }},
		{"exporters that are broken", func(c *api.Collector) {
			c.Exporters[0].Queue.Log.Broken, c.Exporters[1].Queue.Log.Disk.Down = true, true
		}},
		{"great counts", func(c *api.Collector) {
			c.Accepted, c.Refused, c.Removed, c.Lost = math.MaxUint64, math.MaxUint64, math.MaxUint64, math.MaxUint64
			c.Exporters[0].Ledger.Full = math.MaxUint64
		}},
		{"stopped, all the same holding something", func(c *api.Collector) { c.Stopped = true }},
		{"Limit below what is held", func(c *api.Collector) { c.Limit = 0 }},
		{"the greatest Limit", func(c *api.Collector) { c.Limit = math.MaxInt32 }},
		{"other nodes of receivers and connectors", func(c *api.Collector) {
			c.Config.Receivers[0].Node, c.Config.Conns[0].Node = node("x:y"), node("queue:0")
		}},
	} {
		c := twin(good(t))
		x.make(&c)
		checkWhy(t, x.name, c, api.OK)
		checkHeld(t, x.name, c, int(rawHeld(c)))
	}
}

func TestP191Held(t *testing.T) {
	c := good(t)
	checkHeld(t, "a good one", c, 17)
	c.Slots[0].Batch = api.Batch{Held: logs("a:1 2")}
	c.Slots[2].Batch = api.Batch{}
	checkHeld(t, "with other slots", c, 17+1-2)
	c.Exporters[1].Queue.Entries = nil
	c.Exporters[1].Flights = nil
	checkHeld(t, "with an exporter that holds nothing", c, 2+8)
	checkHeld(t, "nothing", api.Collector{}, 0)
}
