package export_test

import (
	"math/rand/v2"
	"runtime"
	"testing"

	"penstock/api"
	"penstock/export"
)

// handed is what is handed in to all calls.
type handed struct {
	Node      api.Node
	Exporters []api.Exporter
	Data      []api.Data
	Keeps     []int
}

// someHanded has values of several lists in all places, also ones that are put more than once.
func someHanded() handed {
	list := api.Value{Kind: api.KindList, List: []api.Value{{Kind: api.KindMap, Pairs: []api.Pair{{Key: "k", Value: api.Value{Kind: api.KindInt, N: 1}}}}}}
	l := []api.Pair{{Key: "a", Value: list}, {Key: "b", Value: list}}
	h := handed{Node: node("queue:2", "file:4KiB"), Keeps: []int{1, 2, 3}}
	for _, s := range signals() {
		d := data(s, "a:1 2/40000", "b:3/40000 4/70000", "c:5")
		for i := range d.Groups {
			g := &d.Groups[i]
			g.Resource, g.Attrs = l, l
			for k := range g.Items {
				g.Items[k].Attrs = append(g.Items[k].Attrs, l...)
				if s == api.SignalLog {
					g.Items[k].Body = list
				}
			}
		}
		h.Data = append(h.Data, d)
	}
	full := holding(with(1, 2), logs("a:1"))
	broken := underWay()
	broken.Queue.Log.Broken = true
	h.Exporters = []api.Exporter{underWay(), good(), full, broken, {Queue: queueOf(two())}, failing(underWay(), 0, false), failing(underWay(), 1, true)}
	return twin(h)
}

// all is what all calls answer.
type all struct {
	Read    api.ExportRules
	Held    []uint64
	Answers []answer
}

func answers(h handed) all {
	var out all
	out.Read, _ = export.Read(h.Node)
	r := with(8, 3)
	for _, e := range h.Exporters {
		out.Held = append(out.Held, export.Held(e))
		for _, d := range h.Data {
			out.Answers = append(out.Answers, offer(e, r, d), offer(e, r, api.Data{Signal: d.Signal}))
		}
		out.Answers = append(out.Answers, send(e, r, 40), send(e, r, 60), crash(e, r, h.Keeps...), opened(e.Queue.Log.Disk, r))
		for _, status := range []int{200, 400, 503} {
			out.Answers = append(out.Answers, reply(e, r, 1, status, "", 50), reply(e, r, 3, status, "", 50))
		}
	}
	return out
}

func TestP186NewMemory(t *testing.T) {
	h, before := someHanded(), someHanded()
	first, second := answers(h), answers(h)
	if !same(h, before) {
		t.Error("what was handed in is changed")
	}
	checkApart(t, "all calls", first, second, h)
	want := twin(second)
	spoil(first)
	if !same(h, before) {
		t.Error("an answer shares memory with what was handed in")
	}
	spoil(h)
	if !same(second, want) {
		t.Error("what was handed in, or an earlier answer, is kept")
	}
	had := map[api.Errno]int{}
	for _, x := range second.Answers {
		had[x.Why]++
	}
	if had[api.OK] < 50 {
		t.Errorf("errors %v", had)
	}
}

// TestP186Room has room behind what is handed in, which stays as it is.
func TestP186Room(t *testing.T) {
	h := someHanded()
	for i := range h.Exporters {
		e := &h.Exporters[i]
		e.Flights = append(make([]api.Flight, 0, 20), e.Flights...)
		e.Queue.Entries = append(make([]api.Entry, 0, 20), e.Queue.Entries...)
		e.Queue.Log.Disk.Files = append(make([]api.File, 0, 20), e.Queue.Log.Disk.Files...)
	}
	for i := range h.Data {
		groups := append(make([]api.Group, 0, 20), h.Data[i].Groups...)
		for k := range groups {
			groups[k].Items = append(make([]api.Item, 0, 20), groups[k].Items...)
		}
		h.Data[i].Groups = groups
	}
	answers(h)
	r := with(8, 9)
	for _, e := range h.Exporters { // from the same one on twice
		first, second := send(e, r, 60), send(e, r, 61)
		check(t, "Send behind another one", send(e, r, 60), first)
		check(t, "Send behind another one", send(e, r, 61), second)
	}
	for _, e := range h.Exporters {
		flights, entries, files := e.Flights[:20], e.Queue.Entries[:20], e.Queue.Log.Disk.Files[:20]
		if flights[len(e.Flights)] != (api.Flight{}) || entries[len(e.Queue.Entries)] != (api.Entry{}) || files[len(e.Queue.Log.Disk.Files)] != (api.File{}) {
			t.Errorf("the room behind what was handed in is changed: %v", becomes(e))
		}
	}
	for _, d := range h.Data {
		if groups := d.Groups[:20]; len(groups[len(d.Groups)].Items) > 0 || groups[0].Items[:20][len(groups[0].Items)].Name != "" {
			t.Errorf("the room behind data that were handed in is changed: %v", told(d))
		}
	}
}

// TestP1AndP2Anything has exporters, rules and data that may be wrong.
func TestP1AndP2Anything(t *testing.T) {
	r := rand.New(rand.NewPCG(18, 20))
	had := map[api.Errno]int{}
	for range 3000 {
		by := anyRules(r)
		e := anyExporter(r, by)
		spoiled(r, &e, &by)
		d := someData(r, pick(r, api.SignalLog, api.Signal(r.IntN(6))))
		first := export.Check(e, by)
		for name, x := range map[string]answer{
			"Offer": offer(e, by, d), "Send": send(e, by, r.Uint64()>>r.IntN(64)), "Crash": crash(e, by, r.IntN(9), -1),
			"Reply": reply(e, by, r.Uint64N(9), r.IntN(700), "\x0a\x02\x08\x02", r.Uint64()>>r.IntN(64)), "Open": opened(e.Queue.Log.Disk, by),
		} {
			had[x.Why]++
			if x.Why != api.OK && !same(x, refused(x.Why)) || name != "Open" && first != api.OK && x.Why != first {
				t.Errorf("%s: %v, Check: error %d", name, x, first)
			}
		}
		export.Held(e)
	}
	for _, why := range []api.Errno{api.OK, api.ErrRange, api.ErrState, api.ErrType, api.ErrUnknown, api.ErrLease} {
		if had[why] < 100 {
			t.Errorf("errors %v", had)
		}
	}
}

// spoiled changes something, mostly so that it is not right.
func spoiled(r *rand.Rand, e *api.Exporter, by *api.ExportRules) {
	any := pick(r, -1, 0, 1<<62, -1<<63, r.IntN(9))
	q := &e.Queue
	switch r.IntN(14) {
	case 0:
		by.Most = any
	case 1:
		by.File = any
	case 2:
		by.Consumers = any
	case 3:
		by.Retry = api.RetryRules{First: uint64(any), Most: r.Uint64(), Total: r.Uint64()}
	case 4:
		q.Most = any
	case 5:
		q.Log.Next = uint64(any)
	case 6:
		q.Log.From = uint64(any)
	case 7:
		q.Log.Size = any
	case 8:
		q.Entries = append(q.Entries, api.Entry{Seq: uint64(any), Leased: true})
	case 9:
		e.Flights = append(e.Flights, flight(uint64(any), any, true, any, r.Uint64(), r.Uint64()))
	case 10:
		q.Log.Disk.Files = append(q.Log.Disk.Files, api.File{Name: "0", Synced: any})
	case 11:
		q.Log.Disk.Down = true
	}
}

func TestP1Deep(t *testing.T) {
	deep := api.Value{}
	for range 1<<16 - 20 {
		deep = api.Value{Kind: api.KindList, List: []api.Value{deep}}
	}
	d := logs("a:1")
	d.Groups[0].Items[0].Body = deep
	check(t, "Offer of what is nested deep", offer(good(), two(), d), refused(api.ErrDepth))
	n := mapNode()
	for range 1<<16 - 20 {
		n = mapNode(key("queue", n))
	}
	checkRead(t, "what is nested deep", n, api.ExportRules{}, api.ErrConf)
}

func TestP3AndP4AlwaysTheSame(t *testing.T) {
	before := runtime.NumGoroutine()
	h := someHanded()
	want := answers(h)
	for range 10 {
		if !same(answers(h), want) || !same(answers(twin(h)), want) {
			t.Fatal("the same is answered otherwise")
		}
	}
	for range 1000 { // one that is joined may still be on its way out
		if runtime.NumGoroutine() <= before {
			return
		}
		runtime.Gosched()
	}
	t.Errorf("%d goroutines are left", runtime.NumGoroutine()-before)
}
