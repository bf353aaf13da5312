package collect_test

import (
	"fmt"
	"math"
	"slices"
	"strings"
	"testing"

	"penstock/api"
	"penstock/collect"
	"penstock/pdata"
)

// sent is all that an exporter sends, one behind the other.
func sent(t *testing.T, c api.Collector, exporter int) []api.Data {
	t.Helper()
	_, l := drained(t, c, 1<<50, exporter)
	return l
}

// keys are those of each item's attributes, or else of its resource's.
func keys(l []api.Data, resource bool) []string {
	var out []string
	for _, d := range l {
		for _, g := range d.Groups {
			for _, x := range g.Items {
				pairs := x.Attrs
				if resource {
					pairs = g.Resource
				}
				s := x.Name + ":"
				for _, p := range pairs {
					s += p.Key
				}
				out = append(out, s)
			}
		}
	}
	return out
}

// TestP192Through has each kind of processors, and none.
func TestP192Through(t *testing.T) {
	c := accepted(t, opened(simple(""), 100), 1, logs("a:1", "b:2 3"), logs("a:4"))
	checkGoes(t, "no processor", c, 0, "a:1, b:2 3", "a:4")
	checkCounts(t, "no processor", c, 4, 0, 0, 0)

	c = accepted(t, opened(simple("x", "attributes x item insert k text:v"), 100), 1, logs("a:1", "b:2+2"))
	if l := keys(sent(t, c, 0), false); !slices.Equal(l, []string{"1:k", "2:k0k1k"}) {
		t.Errorf("attributes: %v", l)
	}
	c = accepted(t, opened(simple("x", "attributes x resource insert k text:v"), 100), 1, logs("a:1", "b:2+2"))
	if l := keys(sent(t, c, 0), true); !slices.Equal(l, []string{"1:k", "2:k"}) {
		t.Errorf("attributes of resources: %v", l)
	}
	checkCounts(t, "attributes", c, 2, 0, 0, 0)

	f := simple("x", `filter x name == "2" or name == "5"`)
	c = accepted(t, opened(f, 100), 1, logs("a:1 2", "b:2", "c:3 4"), logs("d:6 7"), logs("e:2 5"), logs("f:5"))
	checkGoes(t, "a filter", c, 0, "a:1, c:3 4", "d:6 7")
	checkCounts(t, "a filter", c, 10, 0, 5, 0)
	if c.Exporters[0].Ledger.Offered != 5 {
		t.Errorf("a filter: %+v", c.Exporters[0].Ledger)
	}

	c = accepted(t, opened(simple("x", "batch x size:3 max:4"), 100), 1, logs("a:1 2"))
	checkGoes(t, "a batch", c, 0)
	checkHeld(t, "a batch", c, 2)
	c = accepted(t, c, 2, logs("b:3 4", "a:5 6 7"))
	checkGoes(t, "a batch", c, 0, "a:1 2 5 6", "a:7, b:3 4")
	checkHeld(t, "a batch", c, 7)
	checkCounts(t, "a batch", c, 7, 0, 0, 0)
}

// TestP192Orders has processors in each order, the batch ahead of, between and behind the others: what the filter leaves out hangs on what the actions did.
func TestP192Orders(t *testing.T) {
	parts := []string{`filter f attr["k"] == 1`, "attributes a item upsert k int:1", "attributes d item delete k", "batch b size:2 max:2"}
	for order, want := range map[string]struct {
		goes    []string
		removed uint64
		held    int
	}{
		"f":       {[]string{"s:1 2 3"}, 0, 3},
		"a f":     {nil, 3, 0},
		"f a":     {[]string{"s:1 2 3"}, 0, 3},
		"a d f":   {[]string{"s:1 2 3"}, 0, 3},
		"d a f":   {nil, 3, 0},
		"f b":     {[]string{"s:1 2"}, 0, 3},
		"a f b":   {nil, 3, 0},
		"a b f":   {nil, 2, 1},
		"b a f":   {nil, 2, 1},
		"b f a":   {[]string{"s:1 2"}, 0, 3},
		"f a b":   {[]string{"s:1 2"}, 0, 3},
		"b a d f": {[]string{"s:1 2"}, 0, 3},
		"a b d f": {[]string{"s:1 2"}, 0, 3},
		"a d b f": {[]string{"s:1 2"}, 0, 3},
		"d a b f": {nil, 2, 1},
		"a d f b": {[]string{"s:1 2"}, 0, 3},
	} {
		c := accepted(t, opened(simple(order, parts...), 100), 1, logs("s:1 2 3"))
		checkGoes(t, order, c, 0, want.goes...)
		checkCounts(t, order, c, 3, 0, want.removed, 0)
		checkHeld(t, order, c, want.held)
		if offered := c.Exporters[0].Ledger.Offered; offered+c.Removed+uint64(pdata.Items(slotData(c))) != 3 {
			t.Errorf("%s: offered %d, removed %d", order, offered, c.Removed)
		}
		y := past(t, c, stop(2))
		if offered := y.Exporters[0].Ledger.Offered; offered+y.Removed != 3 || y.Removed > 0 && offered > 0 {
			t.Errorf("%s, stopped: offered %d, removed %d", order, offered, y.Removed)
		}
	}
}

// slotData is what the only slot holds, if there is one.
func slotData(c api.Collector) api.Data {
	if len(c.Slots) == 0 {
		return api.Data{}
	}
	return c.Slots[0].Batch.Held
}

// TestP192AttributesFail has an item that gets too many attributes: all that came with it counts as Removed.
func TestP192AttributesFail(t *testing.T) {
	l := []string{"attributes a item insert new int:1", "attributes on resource insert k int:1", "batch b size:2", `filter f name == "x"`}
	for _, procs := range []string{"a", "a f", "f a", "on a", "a on", "a b f"} {
		c := opened(simple(procs, l...), 1000)
		c = accepted(t, c, 1, logs("a:1 2", "b:3+255"), logs("c:4+256 5", "d:6 7"), logs("e:8 9"))
		checkGoes(t, procs, c, 0, "a:1 2, b:3", "e:8 9")
		checkCounts(t, procs, c, 9, 0, 4, 0)
	}
	c := accepted(t, opened(simple("b a", l...), 1000), 1, logs("a:1"), logs("a:2+256"), logs("b:3 4"))
	checkGoes(t, "b a", c, 0, "b:3 4")
	checkCounts(t, "b a", c, 4, 0, 2, 0)
}

// TestP192NothingLeft has data of which nothing is left: they come neither to slots nor to exporters nor to pipelines behind.
func TestP192NothingLeft(t *testing.T) {
	all := []string{"receiver r", "exporter e", "connector c", "filter f true", "attributes a item insert k int:1", "batch b size:5", "logs: r > %s > c e", "logs/b: c > b > e"}
	for _, procs := range []string{"f", "f a", "a f", "f b", "a f b", "f a b"} {
		l := slices.Clone(all)
		l[6] = fmt.Sprintf(l[6], procs)
		c := accepted(t, opened(config(l...), 100), 7, logs("a:1 2", "b:3"))
		want := with(opened(config(l...), 100), func(c *api.Collector) { c.Accepted, c.Removed, c.Last = 3, 3, 1 })
		check(t, procs, becomes(c, api.Out{}), becomes(want, api.Out{}))
	}
}

// TestP192Ways has pipelines one behind another, and several ways to one exporter.
func TestP192Ways(t *testing.T) {
	c := opened(config("receiver r", "connector c", "exporter e1", "exporter e2", "logs: r > c e1", "logs/b: c > e1 e2"), 100)
	c = accepted(t, c, 1, logs("a:1 2"))
	checkGoes(t, "two pipelines that are joined", c, 0, "a:1 2", "a:1 2")
	checkGoes(t, "two pipelines that are joined", c, 1, "a:1 2")

	// what goes behind connectors comes ahead of what goes to exporters, wherever these stand in the list
	marks := []string{"attributes m1 item insert k1 int:1", "attributes m2 item insert k2 int:1", "attributes m3 item insert k3 int:1", "attributes m4 item insert k4 int:1"}
	c = opened(config(append(marks, "receiver r", "connector c", "connector d", "exporter e queue:100", "exporter f queue:100",
		"logs: d > m3 > f e", "logs/b: r > m1 > e d f c", "logs/c: c d > m4 > e", "logs/d: r > m2 > d e")...), 100)
	c = accepted(t, c, 1, logs("a:x"))
	if l := keys(sent(t, c, 0), false); !slices.Equal(l, []string{"x:k1k3", "x:k1k4", "x:k1k4", "x:k1", "x:k2k3", "x:k2k4", "x:k2"}) {
		t.Errorf("ways to e: %v", l)
	}
	if l := keys(sent(t, c, 1), false); !slices.Equal(l, []string{"x:k1k3", "x:k1", "x:k2k3"}) {
		t.Errorf("ways to f: %v", l)
	}
}

// TestP192BatchWays has batches ahead of others: what goes, goes on one by one.
func TestP192BatchWays(t *testing.T) {
	c := opened(config("receiver r", "connector c", "connector d", "exporter e queue:100", "exporter f queue:100", "batch two size:2 max:2", "batch three size:3 max:3",
		"logs: r > two > c e", "logs/b: c > three > e d", "logs/c: d c > two > f e"), 100)
	c = accepted(t, c, 1, logs("a:1 2 3 4 5 6 7"))
	checkGoes(t, "batches", c, 0, "a:1 2", "a:1 2", // the first part: logs/b holds it, logs/c lets it go
		"a:1 2", "a:1 2 3", "a:3 3", "a:3 4", // the second part: three go on from logs/b, by d to logs/c, which holds one of them
		"a:4 4", "a:5 6", "a:4 5 6", "a:5 6", "a:5 6") // the third part likewise
	checkGoes(t, "batches", c, 1, "a:1 2", "a:1 2", "a:3 3", "a:4 4", "a:5 6", "a:5 6")
	checkHeld(t, "batches", c, 1+24+12)
	checkSlots(t, "batches", c, slotOf{0, 0, 1, 1}, slotOf{1, 0, 0, 0}, slotOf{2, 0, 0, 0})
}

// TestP192BatchTime has the time at which the first item came to a slot.
func TestP192BatchTime(t *testing.T) {
	c := opened(simple("b", "batch b size:3"), 100)
	for _, x := range []struct {
		now, since uint64
		names      string
		held       int
	}{{5, 5, "1", 1}, {9, 5, "2", 2}, {12, 0, "3", 0}, {15, 15, "4 5", 2}, {14, 0, "6 7", 0}, {1 << 62, 1 << 62, "8", 1}, {2, 1 << 62, "9", 2}} {
		c = accepted(t, c, x.now, logs("a:"+x.names))
		if b := c.Slots[0].Batch; b.Since != x.since || pdata.Items(b.Held) != x.held {
			t.Errorf("at %d: %+v", x.now, b)
		}
	}
}

// TestP192TickSlots has batches just before, at and behind their time.
func TestP192TickSlots(t *testing.T) {
	c := opened(config("receiver r", "receiver s", "exporter e", "batch a size:9 wait:20ms", "batch b size:9 wait:30ms", "logs: r > a > e", "traces: s > b > e"), 100)
	c = accepted(t, c, 10, logs("a:1 2"))
	c, _ = offered(t, c, 5, "s", data(api.SignalTrace, "t:3"))
	for now, want := range map[uint64][]string{0: nil, 9: nil, 10: nil, 29: nil, 30: {"a:1 2"}, 31: {"a:1 2"}, 34: {"a:1 2"}, 35: {"a:1 2", "t:3"}, 36: {"a:1 2", "t:3"}, 1 << 62: {"a:1 2", "t:3"}, 1<<62 + 1: {"a:1 2", "t:3"}, math.MaxUint64: {"a:1 2", "t:3"}} {
		y := past(t, c, tick(now))
		checkGoes(t, fmt.Sprint("Tick at ", now), y, 0, want...)
		checkHeld(t, fmt.Sprint("Tick at ", now), y, 3)
		check(t, "Tick once more", do(y, tick(now)), becomes(y, api.Out{}))
	}
	late := with(c, func(c *api.Collector) { c.Slots[0].Batch.Since = 1 << 62 })
	for now, goes := range map[uint64]bool{1<<62 + 19: false, 1<<62 + 20: true, 1<<62 + 21: true, 1<<62 - 1: false} {
		if y := past(t, late, tick(now)); (len(y.Slots[0].Batch.Held.Groups) == 0) != goes {
			t.Errorf("Tick at %d: %+v", now, y.Slots[0])
		}
	}
}

// TestP192TickStill has a clock that stands still: what waits 0 goes on with the first tick, and through all slots.
func TestP192TickStill(t *testing.T) {
	c := opened(config("receiver r", "connector c", "exporter e", "batch a size:9 wait:0s", "batch b size:9 wait:0s", "batch d size:9 wait:1ms", "filter f name == \"2\"",
		"logs/b: c > b f d > e", "logs: r > a > c e"), 100)
	c = accepted(t, c, 50, logs("a:1 2"))
	checkGoes(t, "ahead of Tick", c, 0)
	c = past(t, c, tick(50))
	checkGoes(t, "Tick", c, 0, "a:1 2")
	checkSlots(t, "Tick", c, slotOf{1, 0, 0, 0}, slotOf{0, 0, 0, 0}, slotOf{0, 2, 1, 50})
	checkCounts(t, "Tick", c, 2, 0, 1, 0)
	check(t, "Tick once more", do(c, tick(50)), becomes(c, api.Out{}))
	c = past(t, c, tick(51))
	checkGoes(t, "Tick later", c, 0, "a:1 2", "a:1")
}

// TestP192StopTwice has full and empty slots, one ahead of another, and one behind itself by another pipeline.
func TestP192StopTwice(t *testing.T) {
	c := opened(config("receiver r", "connector c", "exporter e", "batch a size:9", "batch b size:9 max:9", "batch d size:3", "filter f name == \"2\"",
		"logs/b: c > b f d > e", "logs: r > a d > c e", "traces: r > a b > e"), 100)
	c = accepted(t, c, 50, logs("a:1 2"), logs("b:3 4 5"), data(api.SignalTrace, "t:6 7"))
	checkHeld(t, "ahead of Stop", c, 7)
	y := past(t, c, stop(1))
	checkGoes(t, "Stop", y, 0, "a:1 2, b:3 4 5", "a:1, b:3 4 5", "t:6 7")
	checkSlots(t, "Stop", y, slotOf{1, 0, 0, 0}, slotOf{1, 1, 0, 0}, slotOf{0, 0, 0, 0}, slotOf{0, 2, 0, 0}, slotOf{2, 0, 0, 0}, slotOf{2, 1, 0, 0})
	checkCounts(t, "Stop", y, 7, 0, 1, 0)
	if !y.Stopped || y.Last != c.Last {
		t.Errorf("Stop: Stopped %v, Last %d", y.Stopped, y.Last)
	}
	check(t, "Stop once more", do(y, stop(2)), becomes(y, api.Out{}))
	empty := opened(rich(), 100)
	check(t, "Stop of what is empty", do(empty, stop(3)), becomes(with(empty, func(c *api.Collector) { c.Stopped = true }), api.Out{}))
	check(t, "Stop of nothing", do(api.Collector{}, stop(3)), becomes(api.Collector{Stopped: true}, api.Out{}))
}

// TestP192StopParts has a slot that is full by hand go in parts, each through what is behind.
func TestP192StopParts(t *testing.T) {
	c := opened(simple("b f", "batch b size:9 max:9", `filter f name == "3"`), 100)
	c.Slots[0].Batch = api.Batch{Held: logs("a:1 2 3 4 5 6 7 8"), Since: 3}
	checkGoes(t, "Stop", past(t, c, stop(1)), 0, "a:1 2 4 5 6 7 8")
	many := opened(simple("b", "batch b size:1 max:1"), 2000)
	many = accepted(t, many, 1, logs("a:"+numbered(0, 700)))
	if l := sent(t, many, 0); len(l) != 700 || told(l[699])[0] != "a:699" {
		t.Errorf("a batch of one: %d go", len(l))
	}
}

// TestP192SlotsStay has slots that hold nothing, as they may be made by hand: moves that do nothing with them leave them so.
func TestP192SlotsStay(t *testing.T) {
	c := with(good(t), func(c *api.Collector) {
		c.Slots[0].Batch = api.Batch{Held: api.Data{Signal: 77}, Since: 9}
		c.Slots[1].Batch = api.Batch{Held: api.Data{Signal: api.SignalTrace, Groups: make([]api.Group, 0, 5)}}
		c.Slots[2].Batch = api.Batch{Since: 1 << 62}
	})
	for _, m := range []api.Move{{}, connect(1, "x"), connect(1, "r"), feed(1, 1, "x"), look(1, 1), take(1, 1), tick(1 << 63), send(1, 5), send(200, 0), reply(200, 0, 2, 200, "")} {
		x := do(c, m)
		if !same(x.Collector.Slots, c.Slots) || x.Why != api.OK {
			t.Errorf("Do of %s: %s", brief(m), brief(x.Collector.Slots))
		}
		checkApart(t, "Do of "+brief(m), x, c)
	}
	checkSlots(t, "Stop", past(t, c, stop(1)), slotOf{0, 2, 0, 0}, slotOf{1, 0, 0, 0}, slotOf{2, 0, 0, 0})
	checkSlots(t, "Crash", past(t, c, crash(1)), slotOf{0, 2, 0, 0}, slotOf{1, 0, 0, 0}, slotOf{2, 0, 0, 0})
}

func TestP192Exporter(t *testing.T) {
	c := good(t)
	for _, i := range []int{-1, 2, 3, math.MaxInt, math.MinInt} {
		check(t, fmt.Sprint("Send of exporter ", i), do(c, send(9, i)), stays(c, api.ErrRange))
		check(t, fmt.Sprint("Reply of exporter ", i), do(c, reply(9, i, 1, 200, "")), stays(c, api.ErrRange))
	}
	check(t, "Send of nothing", do(api.Collector{}, send(9, 0)), stays(api.Collector{}, api.ErrRange))
	check(t, "Reply of nothing", do(api.Collector{}, reply(9, 0, 1, 200, "")), stays(api.Collector{}, api.ErrRange))
	for i := range 2 {
		for now := range uint64(130) {
			check(t, "Send", do(c, send(now, i)), modelOf(c).do(send(now, i)))
		}
		for _, seq := range []uint64{0, 1, 2, 3, 9, math.MaxUint64} {
			for _, status := range []int{0, 200, 202, 400, 429, 503, -1} {
				for _, now := range []uint64{5, 6, 1 << 62, 1<<62 + 1} {
					m := reply(now, i, seq, status, "\x0a\x02\x08\x01")
					check(t, "Do of "+brief(m), do(c, m), modelOf(c).do(m))
				}
			}
		}
	}
}

// TestP192ExporterErrors has each error of Send and Reply, which leaves all as it was, and what comes of others.
func TestP192ExporterErrors(t *testing.T) {
	c := good(t) // of exporter 0 entry 1 is tried again at 107, entry 2 waits; of exporter 1 entry 1 waits
	for want, l := range map[api.Errno][]api.Move{
		api.ErrUnknown: {send(0, 0), send(106, 0), send(6, 1), send(math.MaxUint64, 1)},
		api.ErrLease:   {reply(8, 0, 1, 200, ""), reply(8, 0, 3, 200, ""), reply(8, 0, 0, 200, ""), reply(8, 1, 2, 200, ""), reply(1<<62+1, 1, 2, 503, "")},
		api.ErrRange:   {reply(5, 0, 2, 503, ""), reply(1<<62+1, 0, 2, 0, ""), reply(math.MaxUint64, 1, 1, 429, "")},
	} {
		for _, m := range l {
			check(t, "Do of "+brief(m), do(c, m), stays(c, want))
		}
	}
	x := do(c, send(107, 0))
	if x.Out.N != 1 || !slices.Equal(told(got(t, x.Out.Text)), []string{"a:1 2 4 5"}) || x.Out.Why != api.OK {
		t.Errorf("Send: %+v", x.Out)
	}
	y := do(x.Collector, reply(107, 0, 1, 200, "\x0a\x02\x08\x03"))
	if y.Out != (api.Out{}) || y.Collector.Exporters[0].Ledger != (api.Ledger{Offered: 8, Delivered: 1, Rejected: 3}) || !same(y.Collector.Exporters[1], c.Exporters[1]) {
		t.Errorf("Reply: %+v, %+v", y.Out, y.Collector.Exporters[0].Ledger)
	}
	z := do(y.Collector, reply(107, 1, 1, 400, "x"))
	if z.Out != (api.Out{}) || z.Collector.Exporters[1].Ledger != (api.Ledger{Offered: 6, Never: 4}) {
		t.Errorf("Reply: %+v, %+v", z.Out, z.Collector.Exporters[1].Ledger)
	}
	checkHeld(t, "behind replies", z.Collector, 17-4-4)
}

// TestP192Disks has disks that fail or are full: items that are offered count there alone.
func TestP192Disks(t *testing.T) {
	three := config("receiver r", "exporter e queue:2", "exporter f queue:1", "exporter g", "logs: r > e f g")
	disks := empties(3)
	disks[0].Fault, disks[2].Fuse = 1, 3
	c := collectorOn(t, three, disks)
	c = accepted(t, c, 1, logs("a:1 2"), logs("a:3"), logs("b:4 5 6"))
	want := []api.Ledger{{Offered: 6, Disk: 6}, {Offered: 6, Full: 4}, {Offered: 6, Disk: 4}}
	for i, e := range c.Exporters {
		if e.Ledger != want[i] {
			t.Errorf("exporter %d: %+v, want %+v", i, e.Ledger, want[i])
		}
	}
	checkWhy(t, "with disks that failed", c, api.OK)
	checkHeld(t, "with disks that failed", c, 0+2+2)
	c = past(t, c, crash(2, nil, nil, []int{1000}))
	checkHeld(t, "behind a crash", c, 0+2+3) // the last one's second record is there all the same
	if c.Exporters[2].Ledger != want[2] {
		t.Errorf("behind a crash: %+v", c.Exporters[2].Ledger)
	}
}

// TestP192Long has items that are too many for one message together, and one that gets too long for one.
func TestP192Long(t *testing.T) {
	c := opened(simple("b", "batch b size:2"), 100)
	c = accepted(t, c, 1, logs("a:1/40000"))
	c = accepted(t, c, 1, logs("a:2/40000"))
	checkGoes(t, "items that are long", c, 0, "a:1", "a:2")
	c = opened(simple("m", "attributes m item insert k text:"+strings.Repeat("x", 2000)), 100)
	c = accepted(t, c, 1, logs("a:1"), logs("a:2/64000"), logs("b:3"))
	checkGoes(t, "an item that gets too long", c, 0, "a:1", "b:3")
	if c.Exporters[0].Ledger != (api.Ledger{Offered: 3, Long: 1}) {
		t.Errorf("an item that gets too long: %+v", c.Exporters[0].Ledger)
	}
}

// collectorOn is one on these disks, with rules as most have.
func collectorOn(t *testing.T, c api.Config, disks []api.Disk) api.Collector {
	t.Helper()
	out, why := collect.Open(c, rules(), 1000, disks)
	if why != api.OK {
		t.Fatalf("Open: error %d", why)
	}
	return out
}

// slotOf is a slot that can be compared: how many items it holds.
type slotOf struct {
	Pipe, Proc, Held int
	Since            uint64
}

func slotsTold(c api.Collector) []slotOf {
	var l []slotOf
	for _, s := range c.Slots {
		l = append(l, slotOf{s.Pipe, s.Proc, pdata.Items(s.Batch.Held), s.Batch.Since})
	}
	return l
}

func checkSlots(t *testing.T, name string, c api.Collector, want ...slotOf) {
	t.Helper()
	if l := slotsTold(c); !slices.Equal(l, want) {
		t.Errorf("%s: slots %+v, want %+v", name, l, want)
	}
}
