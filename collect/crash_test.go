package collect_test

import (
	"fmt"
	"math"
	"math/rand/v2"
	"testing"

	"penstock/api"
	"penstock/export"
)

// crashed is c behind a crash, but for its exporters.
func crashed(c api.Collector, lost uint64) api.Collector {
	return with(c, func(c *api.Collector) {
		c.Lines = nil
		c.Lost += lost
		for i := range c.Slots {
			c.Slots[i].Batch = api.Batch{}
		}
	})
}

// TestP192Crash has lines and slots that hold something, and exporters whose requests are under way.
func TestP192Crash(t *testing.T) {
	c := good(t)
	for _, change := range []func(*api.Collector){
		func(*api.Collector) {},
		func(c *api.Collector) { c.Stopped = true },
		func(c *api.Collector) { c.Lost, c.Last = 7, 100 },
		func(c *api.Collector) { c.Slots[1].Batch.Since = 9 },
	} {
		c := with(c, change)
		want := crashed(c, 3)
		for i := range want.Exporters {
			e := &want.Exporters[i]
			e.Flights = nil
			for k := range e.Queue.Entries {
				e.Queue.Entries[k].Leased = false
			}
		}
		for _, keeps := range [][][]int{nil, {nil}, {{1}, nil}, {{0}, {9}, {5}}, {{-1, math.MaxInt}, {math.MinInt}}} { // all is safe
			x := do(c, crash(3, keeps...))
			check(t, fmt.Sprint("Crash, keeping ", keeps), x, becomes(want, api.Out{}))
			check(t, "Crash once more", do(x.Collector, crash(3)), becomes(want, api.Out{}))
		}
	}
	check(t, "Crash of nothing", do(api.Collector{}, crash(1, nil, []int{1})), becomes(api.Collector{}, api.Out{}))
}

// unsafe is a collector of three exporters, the power of whose disks went in the second record: of 62 bytes each, those of the first and the last disk.
func unsafe(t *testing.T) api.Collector {
	t.Helper()
	disks := empties(3)
	disks[0].Fuse, disks[1].Fuse, disks[2].Fuse = 3, 4, 3
	c := collectorOn(t, config("receiver r", "exporter e", "exporter f", "exporter g", "logs: r > e f g"), disks)
	return accepted(t, c, 1, logs("a:1 2"), logs("b:3 4 5"))
}

// TestP192CrashKeeps has fewer, as many and more lists than exporters: each exporter has its own.
func TestP192CrashKeeps(t *testing.T) {
	c := unsafe(t)
	for _, x := range []struct {
		keeps [][]int
		held  [3]uint64
	}{
		{nil, [3]uint64{2, 2, 2}},
		{[][]int{{1000}}, [3]uint64{5, 2, 2}},
		{[][]int{nil, {1000}}, [3]uint64{2, 5, 2}},
		{[][]int{nil, nil, {1000}}, [3]uint64{2, 2, 5}},
		{[][]int{{1000}, {10}, {1000}}, [3]uint64{5, 2, 5}},
		{[][]int{{1000}, {1000}, {1000}, {1000}}, [3]uint64{5, 5, 5}},
		{[][]int{nil, {}, nil, {1000}, {1000}}, [3]uint64{2, 2, 2}},
		{[][]int{{0, 1000}, {-1}, {math.MaxInt, 0}}, [3]uint64{2, 2, 5}},
	} {
		y := past(t, c, crash(5, x.keeps...))
		for i, e := range y.Exporters {
			r, _ := export.Read(c.Config.Exporters[i].Node)
			var keeps []int
			if i < len(x.keeps) {
				keeps = x.keeps[i]
			}
			want, _ := export.Crash(c.Exporters[i], r, keeps)
			if export.Held(e) != x.held[i] || !same(e, want) || e.Ledger != c.Exporters[i].Ledger {
				t.Errorf("Crash, keeping %v: exporter %d holds %d: %+v", x.keeps, i, export.Held(e), e)
			}
		}
		checkCounts(t, "Crash", y, 5, 0, 0, 0)
	}
}

// TestP192CrashRefused has disks of too many entries: all is as it was, also the exporters ahead.
func TestP192CrashRefused(t *testing.T) {
	for _, i := range []int{0, 1} {
		c := with(good(t), func(c *api.Collector) { c.Exporters[i].Queue.Log.Disk = crowded() })
		checkWhy(t, "a disk of too many entries", c, api.OK)
		check(t, "Crash with too many entries", do(c, crash(3)), stays(c, api.ErrMany))
		check(t, "Crash with too many entries", do(c, crash(3, nil, nil)), stays(c, api.ErrMany))
	}
}

// TestP192CrashOn goes on behind a crash: with new lines, and what was taken is sent once more.
func TestP192CrashOn(t *testing.T) {
	c := opened(simple("b", "batch b size:3 max:3"), 100)
	c = accepted(t, c, 1, logs("a:1 2 3 4"))
	c = past(t, c, connect(1, "r"), feed(1, 2, post(logs("a:5"))), send(2, 0))
	c = past(t, c, crash(3))
	checkCounts(t, "behind a crash", c, 4, 0, 0, 1)
	check(t, "Look behind a crash", do(c, look(4, 2)), stays(c, api.ErrUnknown))
	check(t, "Reply behind a crash", do(c, reply(4, 0, 1, 200, "")), stays(c, api.ErrLease))
	x := do(c, connect(4, "r"))
	if x.Out != (api.Out{N: 3}) {
		t.Errorf("Connect behind a crash: %+v", x.Out)
	}
	c = accepted(t, c, 5, logs("a:6 7 8"))
	checkGoes(t, "behind a crash", c, 0, "a:1 2 3", "a:6 7 8")
	stopped := past(t, c, stop(6), crash(7))
	check(t, "Connect behind a crash when it is stopped", do(stopped, connect(8, "r")), stays(stopped, api.ErrState))
}

// TestP192CrashAnything has collectors behind any moves, on disks that fail.
func TestP192CrashAnything(t *testing.T) {
	r := rand.New(rand.NewPCG(19, 2))
	for range 300 {
		c := anyCollector(r)
		for range 20 {
			c = do(c, anyMove(r, c, uint64(r.IntN(400)))).Collector
		}
		var keeps [][]int
		for range r.IntN(5) {
			keeps = append(keeps, []int{r.IntN(300) - 9, r.IntN(300)})
		}
		check(t, fmt.Sprint("Crash, keeping ", keeps), do(c, crash(5, keeps...)), modelOf(c).do(crash(5, keeps...)))
	}
}
