package export_test

import (
	"fmt"
	"math"
	"math/rand/v2"
	"slices"
	"testing"

	"penstock/api"
	"penstock/disk"
	"penstock/export"
	"penstock/queue"
)

func TestP185Held(t *testing.T) {
	if n := export.Held(good()); n != 8 {
		t.Errorf("Held of a good one: %d", n)
	}
	logs2, points := entryData(logs("a:1", "b:2")), entryData(data(api.SignalMetric, "a:1 2 3"))
	for want, l := range map[uint64][]string{
		0: {"", "x", "2", "2\xff", "4" + logs2[1:], logs2[1:], "3" + logs2[1:], "1" + points[1:]},
		2: {logs2, ""},
		7: {logs2, points, "2\xff", logs2},
		3: {points},
	} {
		for _, e := range []api.Exporter{lent(two(), l...), {Queue: queueOf(two(), l...)}} {
			if n := export.Held(e); n != want {
				t.Errorf("Held of %v: %d, want %d", becomes(e), n, want)
			}
		}
	}
	many := logs("a:" + numbered(0, api.MaxItems))
	if n := export.Held(holding(two(), many, many, logs("a:1"))); n != 2*api.MaxItems+1 {
		t.Errorf("Held of many: %d", n)
	}
}

// TestP185HeldByHand has exporters that are not right: what their entries have counts all the same.
func TestP185HeldByHand(t *testing.T) {
	if n := export.Held(api.Exporter{}); n != 0 {
		t.Errorf("Held of none: %d", n)
	}
	s := entryData(logs("a:1 2"))
	e := api.Exporter{Flights: []api.Flight{flight(9, 100, true, -1, 0, 0)}, Ledger: api.Ledger{Offered: 5}}
	for range 3000 {
		e.Queue.Entries = append(e.Queue.Entries, api.Entry{Seq: 7, Data: s}, api.Entry{Data: "2"})
	}
	if n := export.Held(e); n != 6000 {
		t.Errorf("Held of one made by hand: %d", n)
	}
	for name, e := range wrongExporters() {
		want := uint64(0)
		for _, entry := range e.Queue.Entries {
			want += uint64(itemsOf(entry.Data))
		}
		if n := export.Held(e); n != want {
			t.Errorf("Held of %s: %d, want %d", name, n, want)
		}
	}
}

func TestP185Crash(t *testing.T) {
	e := underWay()
	e.Queue.Log.Disk.Fault, e.Queue.Log.Disk.Fuse = 0, 0
	want := twin(e)
	want.Flights = nil
	want.Queue.Log.Disk.Fault, want.Queue.Log.Disk.Fuse = -1, -1
	for i := range want.Queue.Entries {
		want.Queue.Entries[i].Leased = false
	}
	for _, keeps := range [][]int{nil, {0}, {-1, 5}, {math.MaxInt, math.MinInt}} { // all is safe
		check(t, "Crash", crash(e, two(), keeps...), becomes(want))
		broken := twin(e)
		broken.Queue.Log.Broken, broken.Queue.Log.Disk.Down = true, true
		check(t, "Crash of a broken one that is down", crash(broken, two(), keeps...), becomes(want))
	}
	empty := api.Exporter{Queue: queueOf(two())}
	check(t, "Crash of an empty one", crash(empty, two()), becomes(empty))
	other := rules(3, 100, 2, 100, 500, 650)
	want.Queue.Most, want.Queue.Log.Size = 3, 100
	check(t, "Crash with other rules", crash(e, other), becomes(want))
}

// TestP185CrashKeeps has a Put that the power cuts off, and each number of bytes of it that are left.
func TestP185CrashKeeps(t *testing.T) {
	for fuse := range 3 {
		r := rules(8, 1, 2, 100, 500, 650)
		e := failing(holding(r, logs("a:1 2")), fuse, true)
		x := offer(e, r, logs("b:3"))
		size := 17 + len(entryData(logs("b:3")))
		for keep := -1; keep < size+5; keep++ {
			y := crash(x.Exporter, r, 7, keep)
			d, _ := disk.Crash(x.Exporter.Queue.Log.Disk, []int{7, keep})
			want := api.Exporter{Ledger: api.Ledger{Offered: 1, Disk: 1}}
			want.Queue, _ = queue.Open(d, 1, 8)
			check(t, fmt.Sprintf("Crash, Fuse %d, keeping %d", fuse, keep), y, becomes(want))
			if n, whole := export.Held(y.Exporter), fuse > 0 && keep >= size; n != 2 && !whole || n != 3 && whole {
				t.Errorf("Crash, Fuse %d, keeping %d: %d are held", fuse, keep, n)
			}
		}
	}
}

func TestP185CrashRefused(t *testing.T) {
	many := api.Exporter{Queue: queueOf(two())}
	many.Queue.Log.Disk = tooMany()
	if why := export.Check(many, two()); why != api.OK {
		t.Fatalf("Check: error %d", why)
	}
	check(t, "Crash with too many on its disk", crash(many, two()), refused(api.ErrMany))
}

// TestP185CrashAgain has what was taken be sent once more behind a crash, by the same bytes, as if it were new.
func TestP185CrashAgain(t *testing.T) {
	r := with(8, 3)
	e := holding(r, logs("a:1 2"), logs("b:3"), data(api.SignalTrace, "c:4"))
	var sent []string
	for now := range uint64(3) {
		x := send(e, r, now)
		sent = append(sent, x.Request)
		e = x.Exporter
	}
	e = reply(e, r, 2, 200, "", 9).Exporter
	e = reply(e, r, 1, 503, "", 9).Exporter
	e = crash(e, r).Exporter
	for i, seq := range []uint64{1, 3} {
		x := send(e, r, 10)
		if x.Seq != seq || x.Request != sent[seq-1] || x.Exporter.Flights[i] != flight(seq, []int{2, 1}[i], true, 0, 10, 0) {
			t.Errorf("Send behind a crash: %v", x)
		}
		e = x.Exporter
	}
	check(t, "Send of what was answered", send(e, r, 99), refused(api.ErrUnknown))
	if e.Ledger != (api.Ledger{Delivered: 1}) {
		t.Errorf("Ledger behind a crash: %+v", e.Ledger)
	}
}

func TestP185CrashAnything(t *testing.T) {
	r := rand.New(rand.NewPCG(18, 5))
	for range 1500 {
		by := anyRules(r)
		e := anyExporter(r, by)
		e = offer(e, by, someData(r, api.SignalLog)).Exporter
		var keeps []int
		for range r.IntN(4) {
			keeps = append(keeps, r.IntN(200)-9)
		}
		check(t, fmt.Sprint("Crash, keeping ", keeps), crash(e, by, keeps...), modelOf(e, by).crash(keeps))
	}
}

// TestP18Example is the chapter's.
func TestP18Example(t *testing.T) {
	r, _ := export.Read(api.Node{})
	e := opened(empty(), r).Exporter
	e = offer(e, r, logs("a:1 2")).Exporter
	sent := send(e, r, 5)
	if x := reply(sent.Exporter, r, sent.Seq, 200, "", 6); x.Exporter.Ledger != (api.Ledger{Offered: 2, Delivered: 2}) || export.Held(x.Exporter) != 0 {
		t.Errorf("Reply 200: %v", x)
	}
	x := reply(sent.Exporter, r, sent.Seq, 503, "", 6)
	if x.Exporter.Ledger != (api.Ledger{Offered: 2}) || export.Held(x.Exporter) != 2 {
		t.Errorf("Reply 503: %v", x)
	}
	for now := uint64(6); now < 106; now++ {
		check(t, "Send", send(x.Exporter, r, now), refused(api.ErrUnknown))
	}
	if y := send(x.Exporter, r, 106); y.Request != sent.Request || !slices.Equal(names(got(t, y.Request)), []string{"1", "2"}) {
		t.Errorf("Send 100 later: %v", y)
	}
}
