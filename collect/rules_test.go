package collect_test

import (
	"math/rand/v2"
	"runtime"
	"testing"

	"penstock/api"
	"penstock/collect"
)

// handed is what is handed in to all calls.
type handed struct {
	Configs    []api.Config
	Disks      [][]api.Disk
	Collectors []api.Collector
	Moves      []api.Move
}

// someMoves are of each kind, some of which are refused.
func someMoves() []api.Move {
	return []api.Move{
		{}, connect(9, "r"), connect(9, "x"), feed(9, 1, "GET"), feed(9, 1, post(logs("a:1 2 3 4", "b:5"))), feed(9, 7, ""), look(9, 1), look(9, 2), look(9, 4), take(9, 1), take(9, 4),
		tick(3), tick(60), tick(5000), send(9, 0), send(200, 0), send(200, 1), send(9, 2), reply(9, 0, 2, 200, ""), reply(9, 0, 2, 503, ""), reply(9, 1, 1, 400, ""), reply(9, 1, 7, 200, ""),
		stop(9), crash(9), crash(9, []int{1, 2}, []int{3}, nil),
	}
}

// someHanded has values of several lists in all places.
func someHanded(t *testing.T) handed {
	list := api.Value{Kind: api.KindList, List: []api.Value{{Kind: api.KindMap, Pairs: []api.Pair{{Key: "k", Value: api.Value{Kind: api.KindInt, N: 1}}}}}}
	l := []api.Pair{{Key: "a", Value: list}, {Key: "b", Value: list}}
	g := good(t)
	g = past(t, g, feed(8, 1, post(logs("a:1 2", "c:3"))), feed(8, 4, post(data(api.SignalMetric, "m:1 2"))))
	for i := range g.Slots {
		for k := range g.Slots[i].Batch.Held.Groups {
			x := &g.Slots[i].Batch.Held.Groups[k]
			x.Resource, x.Attrs = l, l
			x.Items[0].Attrs = l
			if g.Config.Pipes[g.Slots[i].Pipe].Signal == api.SignalLog {
				x.Items[0].Body = list
			}
		}
	}
	g.Config.Receivers[0].Node = mapNode(key("x", mapNode(key("y", listNode("a", "b")), key("z", textNode("c")))))
	g.Config.Conns[0].Node = g.Config.Receivers[0].Node
	stopped := with(g, func(c *api.Collector) { c.Stopped = true })
	small := with(g, func(c *api.Collector) { c.Limit = 0 })
	crowd := with(g, func(c *api.Collector) { c.Exporters[1].Queue.Log.Disk = crowded() })
	failing := with(g, func(c *api.Collector) { c.Exporters[0].Queue.Log.Disk.Fault, c.Exporters[1].Queue.Log.Disk.Fuse = 0, 1 })
	var disks []api.Disk
	for _, e := range g.Exporters {
		disks = append(disks, e.Queue.Log.Disk)
	}
	return twin(handed{[]api.Config{g.Config, {}, wide().Config}, [][]api.Disk{disks, nil, empties(3)}, []api.Collector{g, stopped, small, crowd, failing, {}}, someMoves()})
}

// all is what all calls answer.
type all struct {
	Opened  []api.Collector
	Held    []uint64
	Answers []answer
}

func answers(h handed) all {
	var out all
	for i, c := range h.Configs {
		x, _ := collect.Open(c, rules(), 100, h.Disks[i])
		out.Opened = append(out.Opened, x)
	}
	for _, c := range h.Collectors {
		n, _ := collect.Held(c)
		out.Held = append(out.Held, n)
		for _, m := range h.Moves {
			out.Answers = append(out.Answers, do(c, m))
		}
	}
	return out
}

func TestP193NewMemory(t *testing.T) {
	h, before := someHanded(t), someHanded(t)
	first, second := answers(h), answers(h)
	if !same(h, before) {
		t.Error("what was handed in is changed")
	}
	checkApart(t, "all calls", first, second, h)
	want := twin(second)
	spoil(first)
	if !same(h, before) {
		t.Error("an answer shares memory with what was handed in")
	}
	spoil(h)
	if !same(second, want) {
		t.Error("what was handed in, or an earlier answer, is kept")
	}
	had := map[api.Errno]int{}
	for _, x := range second.Answers {
		had[x.Out.Why]++
	}
	if had[api.OK] < 50 || len(second.Opened[0].Slots) != 3 || len(second.Opened[2].Exporters) != 3 {
		t.Errorf("errors %v", had)
	}
}

// TestP193Shared hands in lists that stand in several places: each of an answer's has its own memory.
func TestP193Shared(t *testing.T) {
	c := good(t)
	n := mapNode(key("size", textNode("3")), key("kind", listNode("x", "y")))
	for i := range c.Config.Receivers {
		c.Config.Receivers[i].Node = n
	}
	c.Config.Conns[0].Node = mapNode(key("a", n), key("b", n))
	for i := range c.Config.Pipes {
		c.Config.Pipes[i].Exporters = c.Config.Pipes[1].Exporters
		c.Config.Pipes[i].Receivers = c.Config.Pipes[2].Receivers
	}
	c.Config.Pipes[0].Exporters, c.Config.Pipes[1].Receivers = []string{"c"}, []string{"c"}
	c.Slots[1].Batch = c.Slots[0].Batch
	c.Exporters[1].Queue.Log.Disk.Files = c.Exporters[0].Queue.Log.Disk.Files
	checkWhy(t, "what shares lists", c, api.OK)
	for _, m := range someMoves() {
		checkApart(t, "Do of "+brief(m), do(c, m))
	}
	opened, _ := collect.Open(c.Config, rules(), 5, []api.Disk{c.Exporters[0].Queue.Log.Disk, c.Exporters[0].Queue.Log.Disk})
	if rawHeld(opened) != 16 {
		t.Errorf("Open of disks that are one: %d are held", rawHeld(opened))
	}
	checkApart(t, "Open", opened)
}

// TestP193Twice does two moves from the same collector on, each as if there were no other one.
func TestP193Twice(t *testing.T) {
	h := someHanded(t)
	for _, c := range h.Collectors {
		for _, m := range h.Moves {
			want := twin(do(c, m))
			x := do(c, m)
			for _, m := range h.Moves {
				do(c, m)
				do(x.Collector, m)
			}
			check(t, "Do of "+brief(m), x, want)
			check(t, "Do once more of "+brief(m), do(c, m), want)
		}
	}
}

// spoiled changes something, mostly so that it is not right.
func spoiled(r *rand.Rand, c *api.Collector) {
	any := pick(r, -1, 0, 1<<62, -1<<63, r.IntN(9))
	part := func(n int) int { return r.IntN(max(n, 1)) }
	switch n := r.IntN(16); {
	case n == 0:
		c.Rules = api.Rules{MaxBody: any, Idle: r.Uint64()}
	case n == 1:
		c.Limit = any
	case n == 2:
		c.Last = any
	case n == 3:
		c.Lines = append(c.Lines, api.Line{Id: any, Receiver: "r", Conn: api.Conn{Since: r.Uint64()}})
	case n == 4:
		c.Lines = append(c.Lines, api.Line{Id: c.Last, Receiver: pick(r, "r", "x"), Conn: api.Conn{Busy: r.IntN(2) == 0, Last: r.IntN(2) == 0}})
	case n == 5:
		c.Slots = append(c.Slots, api.Slot{Pipe: any, Proc: any})
	case n == 6 && len(c.Slots) > 0:
		c.Slots[part(len(c.Slots))].Batch = api.Batch{Held: logs("a:1 2"), Since: r.Uint64()}
	case n == 7 && len(c.Slots) > 0:
		c.Slots[part(len(c.Slots))].Proc = any
	case n == 8 && len(c.Exporters) > 0:
		c.Exporters[part(len(c.Exporters))].Queue.Log.Next = uint64(any)
	case n == 9 && len(c.Exporters) > 0:
		e := &c.Exporters[part(len(c.Exporters))]
		e.Flights = append(e.Flights, api.Flight{Seq: uint64(any), Waiting: true})
	case n == 10 && len(c.Config.Pipes) > 0:
		c.Config.Pipes[0].Receivers = nil
	case n == 11 && len(c.Config.Procs) > 0:
		c.Config.Procs[0].Node = node("x:y")
	case n == 12:
		c.Exporters = append(c.Exporters, api.Exporter{})
	}
}

// TestP1AndP2Anything has collectors and moves that may be wrong.
func TestP1AndP2Anything(t *testing.T) {
	r := rand.New(rand.NewPCG(19, 12))
	had := map[api.Errno]int{}
	for range 1500 {
		c := anyCollector(r)
		for range r.IntN(12) {
			c = do(c, anyMove(r, c, r.Uint64N(300))).Collector
		}
		spoiled(r, &c)
		m := anyMove(r, c, r.Uint64()>>r.IntN(64))
		why := collect.Check(c)
		had[why]++
		x := do(c, m)
		n, whyHeld := collect.Held(c)
		if whyHeld != why || x.Why != why || why != api.OK && (n != 0 || !same(x, refused(why))) {
			t.Errorf("Check: error %d, Held: %d, error %d, Do of %s: %s", why, n, whyHeld, brief(m), brief(x))
		}
		if why == api.OK {
			check(t, "Do of "+brief(m), x, modelOf(c).do(m))
		}
		opened, why := collect.Open(c.Config, c.Rules, c.Limit, empties(len(c.Exporters)))
		if had[why]++; why != api.OK && !same(opened, api.Collector{}) {
			t.Errorf("Open: error %d, %s", why, brief(opened))
		}
	}
	for _, why := range []api.Errno{api.OK, api.ErrState, api.ErrRange, api.ErrConf} {
		if had[why] < 30 {
			t.Errorf("errors %v", had)
		}
	}
}

func TestP1Deep(t *testing.T) {
	n := mapNode()
	for range 1<<16 - 20 {
		n = mapNode(key("kind", n))
	}
	for i := range 3 {
		c := with(good(t), func(*api.Collector) {})
		*[]*api.Node{&c.Config.Receivers[0].Node, &c.Config.Procs[1].Node, &c.Config.Exporters[1].Node}[i] = n
		checkWhy(t, "what is nested deep", c, api.ErrState)
		check(t, "Do with what is nested deep", do(c, tick(1)), refused(api.ErrState))
		if opened, why := collect.Open(c.Config, rules(), 1, empties(2)); why != api.ErrConf || !same(opened, api.Collector{}) {
			t.Errorf("Open with what is nested deep: error %d", why)
		}
	}
	deep := api.Value{}
	for range 1<<16 - 20 {
		deep = api.Value{Kind: api.KindList, List: []api.Value{deep}}
	}
	c := twin(good(t))
	c.Slots[0].Batch.Held.Groups[0].Items[0].Body = deep
	checkWhy(t, "a slot with what is nested deep", c, api.ErrState)
}

// TestP1Great has as many lines, pipelines, slots and ways as there may be, and many items.
func TestP1Great(t *testing.T) {
	l := []string{"receiver r"}
	procs := ""
	for _, name := range numberedNames("b", 30) {
		l = append(l, "batch "+name+" size:1 max:1")
		procs += name + " "
	}
	for _, name := range numberedNames("e", 32) {
		l = append(l, "exporter "+name+" queue:2")
	}
	ends := ""
	for _, name := range numberedNames("e", 32) {
		ends += name + " "
	}
	l = append(l, "connector c", "logs: r > "+procs+" > c "+ends, "logs/b: c > "+procs+" > "+ends)
	for _, name := range numberedNames("traces/", 30) {
		l = append(l, name+": r > "+procs+" > e0")
	}
	c := opened(config(l...), 1<<31-1)
	if len(c.Slots) != 30*32 {
		t.Errorf("%d slots", len(c.Slots))
	}
	c = accepted(t, c, 1, logs("a:"+numbered(0, 60)))
	for i, e := range c.Exporters {
		if e.Ledger != (api.Ledger{Offered: 120, Full: 118}) {
			t.Errorf("exporter %d: %+v", i, e.Ledger)
		}
	}
}

func numberedNames(name string, n int) []string {
	var l []string
	for i := range n {
		l = append(l, name+numbered(i, i+1))
	}
	return l
}

func TestP3AndP4AlwaysTheSame(t *testing.T) {
	before := runtime.NumGoroutine()
	h := someHanded(t)
	want := answers(h)
	for range 10 {
		if !same(answers(h), want) || !same(answers(twin(h)), want) {
			t.Fatal("the same is answered otherwise")
		}
	}
	for range 1000 { // one that is joined may still be on its way out
		if runtime.NumGoroutine() <= before {
			return
		}
		runtime.Gosched()
	}
	t.Errorf("%d goroutines are left", runtime.NumGoroutine()-before)
}
