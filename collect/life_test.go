package collect_test

import (
	"fmt"
	"iter"
	"math/rand/v2"
	"slices"
	"testing"

	"penstock/api"
	"penstock/collect"
	"penstock/export"
	"penstock/graph"
	"penstock/pdata"
	"penstock/server"
)

// anyConfig has some receivers, connectors, exporters and pipelines, and, if procs is set, processors.
func anyConfig(r *rand.Rand, procs bool) api.Config {
	for {
		l := []string{"receiver r", "receiver s"}
		for _, name := range []string{"e", "f", "g"}[:1+r.IntN(3)] {
			l = append(l, fmt.Sprintf("exporter %s queue:%d file:%d consumers:%d total:%dms", name, 1+r.IntN(30), pick(r, 1, 100, 4096), 1+r.IntN(3), pick(r, 0, 300, 2000)))
		}
		var names []string
		if procs {
			l = append(l, "attributes a item upsert k int:1; hash k", "attributes i resource insert j text:x", "filter p "+pick(r, "true", `name < "3"`, `attr["k"] == 1`, `has(attr["k1"])`),
				fmt.Sprintf("batch b size:%d max:%d wait:%dms", 1+r.IntN(9), 9+r.IntN(5), r.IntN(90)), fmt.Sprintf("batch q size:%d max:%d wait:0s", 1+r.IntN(3), 3+r.IntN(50)))
			names = []string{"a", "i", "p", "b", "b", "q"}
		}
		r.Shuffle(len(l), func(i, k int) { l[i], l[k] = l[k], l[i] })
		c := config(l...)
		c.Pipes = anyPipes(r, c.Exporters, slices.Compact(names))
		join(r, &c)
		r.Shuffle(len(c.Pipes), func(i, k int) { c.Pipes[i], c.Pipes[k] = c.Pipes[k], c.Pipes[i] })
		if graph.Check(c) == api.OK {
			return c
		}
	}
}

// some are any of l, in any order.
func some(r *rand.Rand, l []string, least int) []string {
	l = slices.Clone(l)
	r.Shuffle(len(l), func(i, k int) { l[i], l[k] = l[k], l[i] })
	return l[:min(len(l), least+r.IntN(len(l)+1))]
}

// anyPipes are not joined yet.
func anyPipes(r *rand.Rand, exporters []api.Comp, procs []string) []api.Pipe {
	var ends []string
	for _, x := range exporters {
		ends = append(ends, x.Name)
	}
	signal := pick(r, api.SignalLog, api.SignalLog, api.SignalTrace, api.SignalMetric)
	var l []api.Pipe
	for i := range r.IntN(7) {
		l = append(l, api.Pipe{Signal: pick(r, signal, signal, signal, api.SignalLog), Name: fmt.Sprint(i), Receivers: some(r, []string{"r", "s"}, 1), Procs: some(r, procs, 0), Exporters: some(r, ends, 1)})
	}
	return l
}

// join joins pipelines of one signal by connectors, each to some behind it.
func join(r *rand.Rand, c *api.Config) {
	for i := range c.Pipes {
		for k := i + 1; k < len(c.Pipes); k++ {
			from, to := &c.Pipes[i], &c.Pipes[k]
			if from.Signal != to.Signal || r.IntN(2) == 0 {
				continue
			}
			name := fmt.Sprint("c", i, k)
			c.Conns = append(c.Conns, api.Comp{Name: name})
			from.Exporters = slices.Insert(from.Exporters, r.IntN(len(from.Exporters)+1), name)
			to.Receivers = append(to.Receivers, name)
			if r.IntN(2) == 0 {
				to.Receivers = []string{name}
			}
		}
	}
	for i := range c.Pipes { // a connector may have lost its pipeline
		for _, x := range c.Conns {
			if len(takers(*c, x.Name)) == 0 {
				c.Pipes[i].Exporters = slices.DeleteFunc(c.Pipes[i].Exporters, func(s string) bool { return s == x.Name })
			}
		}
	}
	c.Conns = slices.DeleteFunc(c.Conns, func(x api.Comp) bool { return len(takers(*c, x.Name)) == 0 })
}

// anyCollector is on disks that may fail.
func anyCollector(r *rand.Rand) api.Collector {
	c := anyConfig(r, true)
	disks := empties(len(c.Exporters))
	for i := range disks {
		disks[i].Fuse, disks[i].Fault = pick(r, -1, -1, r.IntN(20)), pick(r, -1, -1, r.IntN(20))
	}
	out, why := collect.Open(c, api.Rules{MaxBody: pick(r, 300, api.MaxBytes), Idle: r.Uint64N(200)}, pick(r, 0, 20, 1000, r.IntN(100)), disks)
	if why != api.OK {
		panic(why)
	}
	return out
}

// anyData has items of names that rise from next on.
func anyData(r *rand.Rand, next *int) api.Data {
	d := api.Data{Signal: pick(r, api.SignalLog, api.SignalLog, api.SignalTrace, api.SignalMetric)}
	for range r.IntN(4) {
		g := api.Group{Scope: pick(r, "a", "b", "c")}
		for range pick(r, 0, 1, 2, r.IntN(6)) {
			g.Items = append(g.Items, one(d.Signal, fmt.Sprintf("%d+%d", *next, pick(r, 0, 0, 1, 3, pick(r, 0, 0, 0, 0, 2, 255, 256)))))
			*next++
		}
		d.Groups = append(d.Groups, g)
	}
	return d
}

// anyRequest is a whole one, or what is none.
func anyRequest(r *rand.Rand, next *int) string {
	switch r.IntN(12) {
	case 0:
		return pick(r, "x", "GET /x HTTP/1.1\r\n\r\n", "POST /v1/logs HTTP/1.1\r\n\r\n", "")
	case 1:
		return closing(anyData(r, next))
	case 2:
		return post(anyData(r, next)) + post(anyData(r, next))
	}
	return post(anyData(r, next))
}

// anyLine is mostly one that is there, and of these mostly one with something to look at.
func anyLine(r *rand.Rand, c api.Collector) int {
	if len(c.Lines) == 0 || r.IntN(20) == 0 {
		return r.IntN(9)
	}
	for _, l := range c.Lines {
		if l.Conn.Buf != "" && r.IntN(3) > 0 {
			return l.Id
		}
	}
	return c.Lines[r.IntN(len(c.Lines))].Id
}

// anySeq is mostly that of a flight.
func anySeq(r *rand.Rand, c api.Collector, exporter int) uint64 {
	if exporter < 0 || exporter >= len(c.Exporters) || len(c.Exporters[exporter].Flights) == 0 || r.IntN(20) == 0 {
		return r.Uint64N(9)
	}
	l := c.Exporters[exporter].Flights
	return l[r.IntN(len(l))].Seq
}

// anyMove may be refused.
func anyMove(r *rand.Rand, c api.Collector, now uint64) api.Move {
	line, next := anyLine(r, c), 0
	exporter := r.IntN(len(c.Exporters))
	if r.IntN(20) == 0 {
		exporter = r.IntN(6) - 2
	}
	if len(c.Lines) == 0 && r.IntN(3) > 0 {
		return connect(now, pick(r, "r", "s", "r", "r", "x"))
	}
	switch n := r.IntN(40); {
	case n < 1:
		return connect(now, pick(r, "r", "s", "x"))
	case n < 10:
		return feed(now, line, anyRequest(r, &next))
	case n < 22:
		return look(now, line)
	case n < 24:
		return take(now, line)
	case n < 26:
		return tick(now + r.Uint64N(100))
	case n < 32:
		return send(now, exporter)
	case n < 38:
		return reply(now, exporter, anySeq(r, c, exporter), pick(r, 200, 200, 202, 503, 503, 0, 400), pick(r, "", "\x0a\x02\x08\x01", "x"))
	}
	return pick(r, stop(now), crash(now, []int{r.IntN(99)}), api.Move{Kind: api.MoveKind(r.IntN(30)), Now: now}, tick(now), tick(now))
}

// TestP192Model holds collectors against the model, on disks that may fail, move by move.
func TestP192Model(t *testing.T) {
	r := rand.New(rand.NewPCG(19, 20))
	had := map[api.MoveKind]map[api.Errno]int{}
	for range 400 {
		c, now := anyCollector(r), uint64(0)
		for range 40 {
			now += r.Uint64N(40)
			m := anyMove(r, c, now)
			x := do(c, m)
			check(t, "Do of "+brief(m), x, modelOf(c).do(m))
			if had[m.Kind] == nil {
				had[m.Kind] = map[api.Errno]int{}
			}
			had[m.Kind][x.Out.Why]++
			c = x.Collector
		}
	}
	for kind := api.MoveConnect; kind < api.MoveCount; kind++ {
		if had[kind][api.OK] < 30 {
			t.Errorf("moves of kind %d: %v", kind, had[kind])
		}
	}
}

// life is a collector's, on disks that never fail.
type life struct {
	collector api.Collector
	now       uint64
}

// do does a move, and tells what holds behind each.
func (l *life) do(t *testing.T, m api.Move) api.Out {
	t.Helper()
	before := twin(l.collector)
	x := do(l.collector, m)
	c := x.Collector
	if why := collect.Check(c); why != api.OK || x.Why != api.OK {
		t.Fatalf("Do of %s answers what is not right: %s", brief(m), brief(x))
	}
	if x.Out.Why != api.OK {
		check(t, "Do of "+brief(m), x, stays(before, x.Out.Why))
	}
	for i, e := range c.Exporters {
		if e.Ledger.Offered != total(e.Ledger)+export.Held(e) || e.Ledger.Disk != 0 {
			t.Fatalf("Do of %s: exporter %d holds %d: %+v", brief(m), i, export.Held(e), e.Ledger)
		}
	}
	if held, _ := collect.Held(c); c.Accepted > before.Accepted && c.Accepted-before.Accepted+rawHeld(before) > uint64(c.Limit) || held != rawHeld(c) {
		t.Fatalf("Do of %s: accepted %d, held %d, and then %d", brief(m), c.Accepted-before.Accepted, rawHeld(before), held)
	}
	if c.Stopped && inSlots(c) > 0 || c.Stopped && c.Accepted > before.Accepted || before.Stopped && !c.Stopped {
		t.Fatalf("Do of %s: behind Stop: %s", brief(m), brief(c))
	}
	l.collector = c
	return x.Out
}

// lives yields some that are under way.
func lives(t *testing.T, n int, seed uint64) iter.Seq2[*life, *rand.Rand] {
	t.Helper()
	r := rand.New(rand.NewPCG(19, seed))
	return func(yield func(*life, *rand.Rand) bool) {
		for range n {
			l := &life{collector: opened(anyConfig(r, true), pick(r, 10, 100, 1000))}
			for range 60 {
				l.now += r.Uint64N(30)
				l.do(t, anyMove(r, l.collector, l.now))
			}
			if !yield(l, r) {
				return
			}
		}
	}
}

// TestP194Right has anything happen, and tells behind each move that the collector is right; so it is of 19.5 and 19.7, too.
func TestP194Right(t *testing.T) {
	var all [4]uint64
	stopped := 0
	for l := range lives(t, 90, 4) {
		for i, n := range counts(l.collector) {
			all[i] += n
		}
		if l.collector.Stopped {
			stopped++
		}
	}
	if min(all[0], all[1], all[2], all[3], uint64(stopped)) < 5 {
		t.Errorf("Accepted, Refused, Removed, Lost %v, stopped %d", all, stopped)
	}
}

// TestP195AccountedFor has one way to one exporter: of all items that are accepted it is told where they are, behind each move.
func TestP195AccountedFor(t *testing.T) {
	r := rand.New(rand.NewPCG(19, 5))
	var all api.Ledger
	for range 80 {
		procs := []string{"a", "b", "f"}
		l := &life{collector: opened(config("receiver r", "connector c", "exporter e queue:3 consumers:2 total:200ms", "batch b size:3 max:5 wait:40ms", `filter f name < "3"`, "attributes a item insert k int:1",
			"logs: r > b > c", "logs/b: c > e", "traces: r > e", "metrics: r > e"), 50)}
		for i := range l.collector.Config.Pipes {
			l.collector.Config.Pipes[i].Procs = some(r, procs, 0)
		}
		l.collector = opened(l.collector.Config, 50)
		for range 80 {
			l.now += r.Uint64N(30)
			l.do(t, anyMove(r, l.collector, l.now))
			c := l.collector
			if offered := c.Exporters[0].Ledger.Offered; c.Accepted != c.Removed+c.Lost+offered+uint64(inSlots(c)) {
				t.Fatalf("Accepted %d, Removed %d, Lost %d, offered %d, in slots %d", c.Accepted, c.Removed, c.Lost, offered, inSlots(c))
			}
		}
		x := l.collector.Exporters[0].Ledger
		all.Delivered, all.Full, all.Never, all.Spent, all.Rejected = all.Delivered+x.Delivered, all.Full+x.Full, all.Never+x.Never, all.Spent+x.Spent, all.Rejected+x.Rejected
	}
	if min(all.Delivered, all.Full, all.Never, all.Spent, all.Rejected) < 5 {
		t.Errorf("%+v", all)
	}
}

func inSlots(c api.Collector) int {
	n := 0
	for _, s := range c.Slots {
		n += pdata.Items(s.Batch.Held)
	}
	return n
}

// TestP196EachWay has no processors: each exporter is offered as many items as there are ways, each time.
func TestP196EachWay(t *testing.T) {
	r := rand.New(rand.NewPCG(19, 6))
	several := 0
	for range 400 {
		c := opened(anyConfig(r, false), 1<<31-1)
		next := 0
		for range 5 {
			d := anyData(r, &next)
			receiver := pick(r, "r", "s")
			y, status := offered(t, c, 5, receiver, d)
			pipes, _ := graph.From(c.Config, receiver, d.Signal)
			want := make([]uint64, len(c.Exporters))
			for _, pipe := range pipes {
				ways, _ := graph.Ways(c.Config, pipe)
				for i, n := range ways {
					want[i] += n * uint64(pdata.Items(d))
					several += int(n / 2)
				}
			}
			for i := range want {
				if n := y.Exporters[i].Ledger.Offered - c.Exporters[i].Ledger.Offered; status != 200 || n != want[i] {
					t.Errorf("exporter %d: %d items more of %v, want %d, status %d: %s", i, n, told(d), want[i], status, brief(c.Config))
				}
			}
			c = y
		}
	}
	if several < 100 {
		t.Errorf("%d only came by several ways", several)
	}
}

// TestP197WithinTheLimit has Limit at its edges, for a while.
func TestP197WithinTheLimit(t *testing.T) {
	for _, limit := range []int{0, 1, 5, 20} {
		c := opened(config("receiver r", "exporter e queue:1000", "batch b size:4", "logs: r > b > e"), limit)
		held := 0
		for i := range 30 {
			n := i % 3
			y, status := offered(t, c, 1, "r", logs("a:"+numbered(0, n)))
			is := held+n <= limit
			if is {
				held += n
			}
			if is != (status == 200) || !is && status != 429 {
				t.Errorf("Limit %d, %d held, %d come: status %d", limit, held, n, status)
			}
			checkHeld(t, "what came", y, held)
			c = y
		}
		if held != limit {
			t.Errorf("Limit %d: %d are held in the end", limit, held)
		}
		c, _ = drained(t, past(t, c, stop(2)), 3, 0)
		checkHeld(t, "in the end", c, 0)
	}
}

// TestP198Stopped has all be sent behind Stop, till nothing is held.
func TestP198Stopped(t *testing.T) {
	full := 0
	for l, r := range lives(t, 60, 8) {
		for range 3 {
			next := 10
			line := int(l.do(t, connect(l.now, "r")).N)
			l.do(t, feed(l.now, line, closing(anyData(r, &next))))
			l.do(t, look(l.now, line))
			l.do(t, take(l.now, line))
		}
		full += inSlots(l.collector)
		l.do(t, stop(l.now))
		if n := inSlots(l.collector); n != 0 {
			t.Fatalf("behind Stop %d items are in slots", n)
		}
		for range 2000 {
			l.now += 1000
			open := false
			for i, e := range l.collector.Exporters {
				open = open || len(e.Queue.Entries) > 0
				l.do(t, send(l.now, i))
				for _, f := range e.Flights {
					l.do(t, reply(l.now, i, f.Seq, 200, ""))
				}
			}
			if !open {
				break
			}
			if r.IntN(5) == 0 {
				l.do(t, anyMove(r, l.collector, l.now))
			}
		}
		checkHeld(t, "in the end", l.collector, 0)
	}
	if full < 20 {
		t.Errorf("%d items only were in slots", full)
	}
}

// TestP19Example is the chapter's.
func TestP19Example(t *testing.T) {
	c := opened(config("receiver r", "exporter e", "logs: r > e"), 100)
	c = past(t, c, connect(0, "r"), feed(0, 1, post(logs("a:1 2"))), look(0, 1))
	if server.Check(c.Lines[0].Conn, c.Rules) != api.OK || status(c.Lines[0].Conn.Out) != 200 || c.Accepted != 2 || c.Exporters[0].Ledger != (api.Ledger{Offered: 2}) {
		t.Errorf("Look: %s", brief(c))
	}
	x := do(c, send(0, 0))
	c = past(t, x.Collector, reply(0, 0, x.Out.N, 200, ""))
	if c.Exporters[0].Ledger != (api.Ledger{Offered: 2, Delivered: 2}) {
		t.Errorf("Reply: %+v", c.Exporters[0].Ledger)
	}
}
