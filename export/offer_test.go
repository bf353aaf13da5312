package export_test

import (
	"fmt"
	"math/rand/v2"
	"strings"
	"testing"

	"penstock/api"
	"penstock/export"
	"penstock/pdata"
	"penstock/queue"
	"penstock/size"
)

// checkOffer tells what has become of a good exporter that is offered d: which entries there are more, and how the others count.
func checkOffer(t *testing.T, name string, r api.ExportRules, d api.Data, parts []api.Data, count api.Ledger) {
	t.Helper()
	want := good()
	want.Ledger.Offered += uint64(pdata.Items(d))
	want.Ledger.Long += count.Long
	want.Ledger.Full += count.Full
	for _, part := range parts {
		var why api.Errno
		if want.Queue, _, why = queue.Put(want.Queue, entryData(part)); why != api.OK {
			t.Fatalf("%s: Put: error %d", name, why)
		}
	}
	check(t, "Offer of "+name, offer(good(), r, d), becomes(want))
}

func TestP182Offer(t *testing.T) {
	for _, s := range signals() {
		d := data(s, "a:1 2", "b:3", "a:4")
		checkOffer(t, "some items", two(), d, []api.Data{d}, api.Ledger{})
		d = data(s, "a:1")
		checkOffer(t, "one item", two(), d, []api.Data{d}, api.Ledger{})
		bare := data(s, "b:3", "d:4 5")
		checkOffer(t, "items among groups without any", two(), data(s, "a:", "b:3", "c:", "d:4 5", "e:"), []api.Data{bare}, api.Ledger{})
		checkOffer(t, "items without a name", two(), api.Data{Signal: s, Groups: []api.Group{{Items: []api.Item{one(s, ""), one(s, "")}}}}, []api.Data{{Signal: s, Groups: []api.Group{{Items: []api.Item{one(s, ""), one(s, "")}}}}}, api.Ledger{})
		for _, none := range []api.Data{{Signal: s}, data(s, "a:"), data(s, "a:", "b:")} {
			checkOffer(t, "no items", two(), none, nil, api.Ledger{})
		}
	}
	e := changedBy(func(e *api.Exporter) { e.Queue.Log.Broken = true })
	check(t, "Offer of no items to a broken one", offer(e, two(), logs("a:")), becomes(e))
}

func TestP182OfferRefused(t *testing.T) {
	long := logs("a:1")
	long.Groups[0].Items[0].Name = strings.Repeat("x", api.MaxText+1)
	for why, d := range map[api.Errno]api.Data{
		api.ErrType:  {Groups: []api.Group{{Items: []api.Item{{}}}}},
		api.ErrUtf:   logs("a:1 2", "b:\xff"),
		api.ErrLong:  long,
		api.ErrMany:  logs("a:" + numbered(0, api.MaxItems+1)),
		api.ErrRange: {Signal: api.SignalTrace, Groups: []api.Group{{Items: []api.Item{{}}}}},
	} {
		if pdata.Check(d) != why {
			t.Fatalf("Check: error %d, want %d", pdata.Check(d), why)
		}
		check(t, "Offer of what is not right", offer(good(), two(), d), refused(why))
		check(t, "Offer of what is not right to a broken one", offer(changedBy(func(e *api.Exporter) { e.Queue.Log.Broken = true }), two(), d), refused(why))
	}
	check(t, "Offer of data of no signal, without items", offer(good(), two(), api.Data{}), refused(api.ErrType))
}

// TestP182OfferParts has data that go in several entries.
func TestP182OfferParts(t *testing.T) {
	for _, s := range signals() {
		d := data(s, "a:1/30000 2/30000 3/30000", "b:4/30000 5/10", "c:6/10 7/60000")
		checkOffer(t, "three parts", two(), d, []api.Data{data(s, "a:1/30000 2/30000"), data(s, "a:3/30000", "b:4/30000 5/10", "c:6/10"), data(s, "c:7/60000")}, api.Ledger{})
		d = data(s, "a:1/60000 2/60000 3/60000")
		checkOffer(t, "each one alone", two(), d, []api.Data{data(s, "a:1/60000"), data(s, "a:2/60000"), data(s, "a:3/60000")}, api.Ledger{})
		d = data(s, "a:1/60000 2/60000 3/60000 4/60000 5/10")
		checkOffer(t, "more parts than there may be", two(), d, []api.Data{data(s, "a:1/60000"), data(s, "a:2/60000"), data(s, "a:3/60000")}, api.Ledger{Full: 2})
	}
}

func TestP182OfferLong(t *testing.T) {
	for _, s := range signals() {
		for _, all := range []struct {
			from  []string
			parts [][]string
			long  uint64
		}{
			{[]string{"a:1/70000"}, nil, 1},
			{[]string{"a:1/70000 2 3"}, [][]string{{"a:2 3"}}, 1},
			{[]string{"a:1 2/70000 3"}, [][]string{{"a:1"}, {"a:3"}}, 1},
			{[]string{"a:1 2 3/70000"}, [][]string{{"a:1 2"}}, 1},
			{[]string{"a:1/70000 2/70000 3/70000"}, nil, 3},
			{[]string{"a:1 2", "b:3/70000", "c:4"}, [][]string{{"a:1 2"}, {"c:4"}}, 1},
			{[]string{"a:1 2", "b:3 4/70000 5/99999 6", "c:7"}, [][]string{{"a:1 2", "b:3"}, {"b:6", "c:7"}}, 2},
			{[]string{"a:1/40000 2/40000 3/99999 4/40000 5"}, [][]string{{"a:1/40000"}, {"a:2/40000"}, {"a:4/40000 5"}}, 1},
		} {
			var parts []api.Data
			for _, l := range all.parts {
				parts = append(parts, data(s, l...))
			}
			checkOffer(t, fmt.Sprint(all.from), two(), data(s, all.from...), parts, api.Ledger{Long: all.long})
		}
	}
}

// exactly is one item whose request has just so many bytes.
func exactly(t *testing.T, s api.Signal, n int) api.Data {
	t.Helper()
	for more := n - 1000; more < n; more++ {
		d := data(s, fmt.Sprintf("a:1/%d", more))
		if got, why := size.Size(d); got == n && why == api.OK {
			return d
		}
	}
	t.Fatalf("no item has %d bytes", n)
	return api.Data{}
}

// TestP182OfferEdges has messages that are just as long as they may be, and one byte longer.
func TestP182OfferEdges(t *testing.T) {
	for _, s := range signals() {
		most, more := exactly(t, s, api.MaxBytes-2), exactly(t, s, api.MaxBytes-1)
		checkOffer(t, "an item that is just short enough", two(), most, []api.Data{most}, api.Ledger{})
		checkOffer(t, "an item that is just too long", two(), more, nil, api.Ledger{Long: 1})
		for _, d := range []api.Data{exactly(t, s, 20000), exactly(t, s, 65000)} {
			n, _ := size.Size(d)
			fit, over := exactly(t, s, api.MaxBytes-2-n), exactly(t, s, api.MaxBytes-1-n)
			both := api.Data{Signal: s, Groups: []api.Group{d.Groups[0], fit.Groups[0]}}
			checkOffer(t, "two that just go together", two(), both, []api.Data{both}, api.Ledger{})
			apart := api.Data{Signal: s, Groups: []api.Group{d.Groups[0], over.Groups[0]}}
			checkOffer(t, "two that just do not", two(), apart, []api.Data{d, over}, api.Ledger{})
		}
	}
}

func TestP182OfferFull(t *testing.T) {
	for n := range 4 {
		r := with(n+1, 2)
		e := holding(r, logs("a:0"))
		want := becomes(e)
		var parts []string
		for i := range 4 {
			part := fmt.Sprintf("a:%d/60000", i)
			parts = append(parts, part)
			if i < n {
				want.Exporter.Queue, _, _ = queue.Put(want.Exporter.Queue, entryData(logs(part)))
			}
		}
		d := logs("a:" + strings.ReplaceAll(strings.Join(parts, " "), "a:", ""))
		want.Exporter.Ledger = api.Ledger{Offered: 4, Full: uint64(4 - n)}
		check(t, fmt.Sprintf("Offer with room for %d", n), offer(e, r, d), want)
	}
	e := holding(with(3, 2), logs("a:1"), logs("a:2"), logs("a:3"))
	want := e
	want.Ledger = api.Ledger{Offered: 6, Full: 5, Long: 1}
	check(t, "Offer to a full one", offer(e, with(3, 2), data(api.SignalTrace, "a:4 5", "b:6/70000 7 8 9")), becomes(want))
	e.Queue.Log.Broken = true
	want = e
	want.Ledger = api.Ledger{Offered: 6, Disk: 5, Long: 1}
	check(t, "Offer to a full one that is broken", offer(e, with(3, 2), data(api.SignalTrace, "a:4 5", "b:6/70000 7 8 9")), becomes(want))
}

// TestP182OfferFails has disks that fail at each step of each Put.
func TestP182OfferFails(t *testing.T) {
	d := logs("a:1/60000 2/60000 3/60000 4 5 6/70000 7")
	for _, file := range []int{1, 4096, api.MaxFile} {
		r := rules(8, file, 2, 100, 500, 650)
		for at := range 14 {
			for _, power := range []bool{false, true} {
				e := failing(holding(r, logs("a:0")), at, power)
				want := modelOf(e, r).offer(d)
				x := offer(e, r, d)
				check(t, fmt.Sprintf("Offer, File %d, failing at %d, %v", file, at, power), x, want)
				l := x.Exporter.Ledger
				steps := 2 * 4 // append, sync
				if file < api.MaxFile {
					steps = 3 * 4 // create, too
				}
				if file == 4096 { // the first part stands behind what is there
					steps--
				}
				if l.Offered != 7 || l.Long != 1 || l.Full != 0 || (l.Disk == 0) != (at >= steps) || x.Exporter.Queue.Log.Broken != (at < steps) || at < 2 && l.Disk != 6 {
					t.Errorf("Offer, File %d, failing at %d, %v: %v", file, at, power, x)
				}
			}
		}
	}
}

// TestP182OfferDisk has a disk that is full, a log without numbers, and one that is broken.
func TestP182OfferDisk(t *testing.T) {
	files := empty()
	for i := range api.MaxFiles {
		files.Files = append(files.Files, api.File{Name: fmt.Sprintf("x%02d", i)})
	}
	full := opened(files, two()).Exporter
	want := full
	want.Queue.Log.Broken = true
	want.Ledger = api.Ledger{Offered: 3, Disk: 3}
	check(t, "Offer to a disk full of files", offer(full, two(), logs("a:1 2", "b:3")), becomes(want))
	for name, change := range map[string]func(*api.Exporter){
		"without numbers": func(e *api.Exporter) { e.Queue.Log.Next = 1 << 62 },
		"that is broken":  func(e *api.Exporter) { e.Queue.Log.Broken = true },
	} {
		e := changedBy(change)
		want := e
		want.Ledger.Offered += 4
		want.Ledger.Disk += 3
		want.Ledger.Long++
		check(t, "Offer to one "+name, offer(e, two(), logs("a:1 2", "b:3 4/70000")), becomes(want))
	}
	e := changedBy(func(e *api.Exporter) { e.Queue.Log.Disk.Down = true })
	want = e
	want.Queue.Log.Broken = true
	want.Ledger.Offered += 2
	want.Ledger.Disk += 2
	check(t, "Offer to one that is down", offer(e, two(), logs("a:1", "b:2")), becomes(want))
}

// someData is any, with items of which some are long, and some too long.
func someData(r *rand.Rand, s api.Signal) api.Data {
	var l []string
	for i := range r.IntN(5) {
		var items []string
		for k := range pick(r, 0, 1, r.IntN(4), r.IntN(30)) {
			items = append(items, fmt.Sprintf("%d.%d/%d", i, k, pick(r, 0, 0, r.IntN(100), r.IntN(3000), r.IntN(30000), 65500+r.IntN(100), 70000)))
		}
		l = append(l, pick(r, "a:", "b:", fmt.Sprint(i, ":"))+strings.Join(items, " "))
	}
	return data(s, l...)
}

// TestP182OfferAnything is held against a model that asks for the length of each beginning of what is left.
func TestP182OfferAnything(t *testing.T) {
	r := rand.New(rand.NewPCG(18, 2))
	var all api.Ledger
	for range 300 {
		by := with(1+r.IntN(12), 2)
		by.File = pick(r, 1, 4096, api.MaxFile)
		e := holding(by, logs("a:1"))
		d := someData(r, pick(r, signals()...))
		x := offer(e, by, d)
		check(t, fmt.Sprint("Offer of ", told(d)), x, modelOf(e, by).offer(d))
		l := x.Exporter.Ledger
		if l.Offered != uint64(pdata.Items(d)) || l.Offered+1 != total(l)+export.Held(x.Exporter) {
			t.Errorf("Offer of %v: %v", told(d), x)
		}
		all.Long += min(l.Long, 1)
		all.Full += min(l.Full, 1)
	}
	if all.Long < 50 || all.Full < 20 {
		t.Errorf("%+v", all)
	}
}

// TestP182OfferGreat has as many items as may be, each as long as may be, with as many attributes as may be, or too long.
func TestP182OfferGreat(t *testing.T) {
	r := rules(api.MaxItems, api.MaxFile, 2, 100, 500, 650)
	d := api.Data{Signal: api.SignalLog, Groups: make([]api.Group, 2)}
	for i := range api.MaxItems {
		x := one(api.SignalLog, fmt.Sprint(i))
		for k := range api.MaxParts {
			x.Attrs = append(x.Attrs, api.Pair{Key: fmt.Sprint(k), Value: api.Value{Kind: api.KindText, S: strings.Repeat("x", 200+i%2*100)}})
		}
		d.Groups[i/512].Items = append(d.Groups[i/512].Items, x)
	}
	x := offer(api.Exporter{Queue: queueOf(r)}, r, d)
	l := x.Exporter.Ledger
	if x.Why != api.OK || l.Offered != api.MaxItems || l.Long != api.MaxItems/2 || l.Full != 0 || l.Disk == 0 || export.Held(x.Exporter)+l.Disk != api.MaxItems/2 {
		t.Errorf("Offer: %v", x)
	}
	short := logs("a:"+numbered(0, 512), "b:"+numbered(512, api.MaxItems))
	check(t, "Offer of many", offer(api.Exporter{Queue: queueOf(r)}, r, short), becomes(api.Exporter{Queue: queueOf(r, entryData(short)), Ledger: api.Ledger{Offered: api.MaxItems}}))
}
