package export_test

import (
	"math"
	"strconv"
	"strings"
	"testing"

	"penstock/api"
	"penstock/disk"
	"penstock/export"
	"penstock/queue"
	"penstock/segment"
)

const longest = uint64(1) << 53 // of a wait

func rightRules() []api.ExportRules {
	return []api.ExportRules{
		two(), rules(1, 1, 2, 1, 1, 0), rules(1024, 1<<18, 9, longest, longest, longest), rules(1024, 4096, 3, 1, longest, 0), rules(8, 1<<18, 2, 1, 2, 1),
	}
}

func wrongRules() map[string]api.ExportRules {
	return map[string]api.ExportRules{
		"none":               {},
		"Most 0":             rules(0, 4096, 2, 100, 500, 650),
		"Most below 0":       rules(-1, 4096, 2, 100, 500, 650),
		"Most one more":      rules(1025, 4096, 2, 100, 500, 650),
		"the greatest Most":  rules(math.MaxInt, 4096, 2, 100, 500, 650),
		"the least Most":     rules(math.MinInt, 4096, 2, 100, 500, 650),
		"File 0":             rules(8, 0, 2, 100, 500, 650),
		"File below 0":       rules(8, -1, 2, 100, 500, 650),
		"File one more":      rules(8, 1<<18+1, 2, 100, 500, 650),
		"the greatest File":  rules(8, math.MaxInt, 2, 100, 500, 650),
		"Consumers 0":        rules(8, 4096, 0, 100, 500, 650),
		"Consumers below 0":  rules(8, 4096, -1, 100, 500, 650),
		"Consumers one more": rules(8, 4096, 10, 100, 500, 650),
		"First 0":            rules(8, 4096, 2, 0, 500, 650),
		"First above Most":   rules(8, 4096, 2, 501, 500, 650),
		"Most of Retry":      rules(8, 4096, 2, 100, longest+1, 650),
		"Total":              rules(8, 4096, 2, 100, 500, longest+1),
		"the greatest Total": rules(8, 4096, 2, 100, 500, math.MaxUint64),
	}
}

// changedBy is a good exporter that was changed.
func changedBy(change func(*api.Exporter)) api.Exporter {
	e := good()
	change(&e)
	return e
}

func rightExporters() map[string]api.Exporter {
	many := lent(two(), "", "x", "2", "1\xff", "2\x0a\x02\x12\x00")
	many.Flights = []api.Flight{flight(2, 0, true, 1<<30, math.MaxUint64, math.MaxUint64), flight(4, 0, false, 0, 0, 0)}
	return map[string]api.Exporter{
		"a good one":        good(),
		"an empty one":      {Queue: queueOf(two())},
		"without flights":   changedBy(func(e *api.Exporter) { e.Flights = nil }),
		"what are no data":  many,
		"a broken one":      changedBy(func(e *api.Exporter) { e.Queue.Log.Broken = true }),
		"one that is down":  changedBy(func(e *api.Exporter) { e.Queue.Log.Disk.Down = true }),
		"one that fails":    changedBy(func(e *api.Exporter) { e.Queue.Log.Disk.Fault, e.Queue.Log.Disk.Fuse = 0, 0 }),
		"another Most":      changedBy(func(e *api.Exporter) { e.Queue.Most = 1 }),
		"another Size":      changedBy(func(e *api.Exporter) { e.Queue.Log.Size = 1 }),
		"any Ledger":        changedBy(func(e *api.Exporter) { e.Ledger = api.Ledger{Delivered: math.MaxUint64} }),
		"Tries 0":           changedBy(func(e *api.Exporter) { e.Flights[1].Retry.Tries = 0 }),
		"Tries at the most": changedBy(func(e *api.Exporter) { e.Flights[1].Retry.Tries = 1 << 30 }),
		"any times":         changedBy(func(e *api.Exporter) { e.Flights[0].Retry = api.Retry{Since: math.MaxUint64, Next: 1} }),
		"none waits":        changedBy(func(e *api.Exporter) { e.Flights[0].Waiting = false }),
	}
}

func wrongExporters() map[string]api.Exporter {
	unread := lent(two(), "2\xff")
	unread.Flights = []api.Flight{flight(1, 1, true, 0, 0, 0)}
	return map[string]api.Exporter{
		"none":                         {},
		"a queue without Most":         changedBy(func(e *api.Exporter) { e.Queue.Most = 0 }),
		"a log without a Size":         changedBy(func(e *api.Exporter) { e.Queue.Log.Size = 0 }),
		"a disk that is not right":     changedBy(func(e *api.Exporter) { e.Queue.Log.Disk.Files[0].Synced = -1 }),
		"entries that don't rise":      changedBy(func(e *api.Exporter) { e.Queue.Entries[4].Seq = 4 }),
		"an entry that is too long":    changedBy(func(e *api.Exporter) { e.Queue.Entries[4].Data = strings.Repeat("x", api.MaxBytes) }),
		"a number past the log's":      changedBy(func(e *api.Exporter) { e.Queue.Log.Next = 5 }),
		"more flights than Consumers":  changedBy(func(e *api.Exporter) { e.Flights = append(e.Flights, flight(4, 1, false, 0, 0, 0)) }),
		"flights that fall":            changedBy(func(e *api.Exporter) { e.Flights[0], e.Flights[1] = e.Flights[1], e.Flights[0] }),
		"a flight twice":               changedBy(func(e *api.Exporter) { e.Flights[1] = e.Flights[0] }),
		"a flight of no entry":         changedBy(func(e *api.Exporter) { e.Flights[1].Seq = 6 }),
		"a flight ahead of all":        changedBy(func(e *api.Exporter) { e.Flights[0].Seq = 0 }),
		"a flight of what is not lent": changedBy(func(e *api.Exporter) { e.Flights[1] = flight(5, 1, false, 0, 0, 0) }),
		"the first one's is not lent":  changedBy(func(e *api.Exporter) { e.Queue.Entries[0].Leased = false }),
		"one item more":                changedBy(func(e *api.Exporter) { e.Flights[0].Items = 3 }),
		"one item fewer":               changedBy(func(e *api.Exporter) { e.Flights[1].Items = 2 }),
		"no items":                     changedBy(func(e *api.Exporter) { e.Flights[1].Items = 0 }),
		"fewer than none":              changedBy(func(e *api.Exporter) { e.Flights[1].Items = -3 }),
		"items of what is not read":    unread,
		"Tries below 0":                changedBy(func(e *api.Exporter) { e.Flights[1].Retry.Tries = -1 }),
		"the first one's Tries":        changedBy(func(e *api.Exporter) { e.Flights[0].Retry.Tries = math.MinInt }),
		"Tries one more":               changedBy(func(e *api.Exporter) { e.Flights[1].Retry.Tries = 1<<30 + 1 }),
		"the greatest Tries":           changedBy(func(e *api.Exporter) { e.Flights[0].Retry.Tries = math.MaxInt }),
	}
}

// TestP182Check has each call answer Check's error first.
func TestP182Check(t *testing.T) {
	for name, e := range rightExporters() {
		for _, r := range rightRules() {
			if why := export.Check(e, r); why != api.OK {
				t.Errorf("Check of %s, %+v: error %d", name, r, why)
			}
		}
		for reason, r := range wrongRules() {
			checkRefused(t, name+", rules "+reason, e, r, api.ErrRange)
		}
	}
	for name, e := range wrongExporters() {
		for _, r := range append(rightRules()[:1], rules(1024, 1<<18, 2, longest, longest, longest)) {
			checkRefused(t, name, e, r, api.ErrState)
		}
		for reason, r := range wrongRules() {
			checkRefused(t, name+", rules "+reason, e, r, api.ErrRange)
		}
	}
	e := good()
	checkRefused(t, "two flights of one consumer", e, with(8, 1), api.ErrState)
	e.Flights = append(e.Flights, flight(4, 1, false, 0, 0, 0))
	if why := export.Check(e, with(8, 3)); why != api.OK {
		t.Errorf("Check of as many flights as consumers: error %d", why)
	}
}

// checkRefused tells that each call answers that error, whatever else it is given.
func checkRefused(t *testing.T, name string, e api.Exporter, r api.ExportRules, why api.Errno) {
	t.Helper()
	if got := export.Check(e, r); got != why {
		t.Errorf("Check of %s: error %d, want %d", name, got, why)
	}
	for _, d := range []api.Data{logs("a:1"), {}, logs("\xff:1")} {
		check(t, "Offer to "+name, offer(e, r, d), refused(why))
	}
	for _, now := range []uint64{0, 50, math.MaxUint64} {
		check(t, "Send of "+name, send(e, r, now), refused(why))
	}
	for _, seq := range []uint64{1, 3, 9} {
		for _, status := range []int{200, 400, 503} {
			check(t, "Reply to "+name, reply(e, r, seq, status, "", 60), refused(why))
		}
	}
	check(t, "Crash of "+name, crash(e, r, 1, 2), refused(why))
}

func TestP182Open(t *testing.T) {
	for _, r := range rightRules() {
		want := api.Exporter{Queue: api.Queue{Log: api.Log{Disk: empty(), Size: r.File, From: 1, Next: 1}, Most: r.Most}}
		check(t, "Open of an empty disk", opened(empty(), r), becomes(want))
		e := good()
		e.Queue.Log.Disk.Fault, e.Queue.Log.Disk.Fuse = 7, 8
		want.Queue, _ = queue.Open(e.Queue.Log.Disk, r.File, r.Most)
		check(t, "Open of a disk with entries", opened(e.Queue.Log.Disk, r), becomes(want))
		if n := len(want.Queue.Entries); n != 5 || export.Held(want) != 8 {
			t.Errorf("Open: %d entries, %d items held", n, export.Held(want))
		}
	}
}

func TestP182OpenRefused(t *testing.T) {
	wrong := api.Disk{Files: []api.File{{Name: "a", Synced: 1}}, Fuse: -1, Fault: -1}
	down := empty()
	down.Down = true
	for name, r := range wrongRules() {
		for _, d := range []api.Disk{empty(), good().Queue.Log.Disk, wrong, down} {
			check(t, "Open with rules "+name, opened(d, r), refused(api.ErrRange))
		}
	}
	check(t, "Open of a disk that is not right", opened(wrong, two()), refused(api.ErrState))
	wrong.Down = true
	check(t, "Open of a disk that is neither right nor on", opened(wrong, two()), refused(api.ErrState))
	check(t, "Open of a disk that is down", opened(down, two()), refused(api.ErrDown))
	torn, _ := disk.Append(good().Queue.Log.Disk, "0000000000000001", "torn")
	for why, d := range map[api.Errno]api.Disk{api.ErrDisk: failing(api.Exporter{Queue: api.Queue{Log: api.Log{Disk: torn}}}, 0, false).Queue.Log.Disk, api.ErrDown: {Files: torn.Files, Fault: -1}} {
		if q, whyQueue := queue.Open(d, 4096, 8); whyQueue != why || !q.Log.Broken {
			t.Fatalf("the disk does not fail: error %d", whyQueue)
		}
		check(t, "Open of a disk that fails", opened(d, two()), refused(why))
	}
	check(t, "Open of too many", opened(tooMany(), two()), refused(api.ErrMany))
}

// tooMany is a disk with one entry more than may be opened.
func tooMany() api.Disk {
	l := api.Log{Disk: empty(), Size: api.MaxFile, From: 1, Next: 1}
	for i := range api.MaxItems + 1 {
		l, _ = segment.Append(l, "P"+strconv.Itoa(i))
	}
	return l.Disk
}
