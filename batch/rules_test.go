package batch_test

import (
	"math/rand/v2"
	"runtime"
	"strconv"
	"testing"

	"penstock/api"
	"penstock/batch"
	"penstock/pdata"
)

// handed is what is handed in to all calls: a batch of each signal, and data that come to it.
type handed struct {
	Node    api.Node
	Batches []api.Batch
	Data    []api.Data
}

// someHanded has values of several lists in all places, also ones that are put more than once.
func someHanded() handed {
	list := api.Value{Kind: api.KindList, List: []api.Value{{Kind: api.KindMap, Pairs: []api.Pair{{Key: "k", Value: api.Value{Kind: api.KindInt, N: 1}}}}}}
	l := []api.Pair{{Key: "a", Value: list}, {Key: "b", Value: list}}
	h := handed{Node: node("kind:batch", "size:2")}
	for _, s := range signals() {
		d := data(s, "a:1 2", "b:3", "c:4")
		for i := range d.Groups {
			g := &d.Groups[i]
			g.Resource, g.Attrs = l, l
			for k := range g.Items {
				g.Items[k].Attrs = l
				if s == api.SignalLog {
					g.Items[k].Body = list
				}
			}
		}
		held := d
		held.Groups = d.Groups[:2]
		h.Batches, h.Data = append(h.Batches, api.Batch{Held: held, Since: 5}), append(h.Data, d)
	}
	h.Batches = append(h.Batches, api.Batch{Held: api.Data{Groups: make([]api.Group, 0, 4)}, Since: 3})
	return twin(h)
}

// all is what all calls answer.
type all struct {
	Read    api.BatchRules
	Answers []answer
}

func answers(h handed) all {
	var out all
	out.Read, _ = batch.Read(h.Node)
	for i, b := range h.Batches {
		for _, r := range []api.BatchRules{rules(4, 4, 10), rules(4, 5, 10), rules(20, 20, 10), rules(7, 1024, 10)} {
			out.Answers = append(out.Answers, flush(b, r), tick(b, r, 4), tick(b, r, 14), tick(b, r, 15))
			for k, d := range h.Data {
				if i == k || i == len(h.Data) {
					out.Answers = append(out.Answers, add(b, r, d, 9), add(api.Batch{}, r, d, 9), add(b, r, api.Data{Signal: d.Signal}, 9))
				}
			}
		}
	}
	return out
}

func TestP164NewMemory(t *testing.T) {
	h, before := someHanded(), someHanded()
	first, second := answers(h), answers(h)
	if !same(h, before) {
		t.Error("what was handed in is changed")
	}
	checkApart(t, "all calls", first, second, h)
	want := twin(second)
	spoil(first)
	if !same(h, before) {
		t.Error("an answer shares memory with what was handed in")
	}
	spoil(h)
	if !same(second, want) || len(second.Answers[0].Gone) != 1 || len(second.Answers[1].Batch.Held.Groups) != 2 {
		t.Error("what was handed in, or an earlier answer, is kept")
	}
	for _, x := range second.Answers {
		if x.Why != api.OK {
			t.Errorf("an answer: %v", x)
		}
	}
}

// TestP164Room has room behind what is handed in, which stays as it is.
func TestP164Room(t *testing.T) {
	d := logs("a:1 2", "b:3", "a:4", "c:5 6")
	groups := append(make([]api.Group, 0, 20), d.Groups...)
	for i := range groups {
		groups[i].Items = append(make([]api.Item, 0, 20), groups[i].Items...)
	}
	b := api.Batch{Held: api.Data{Signal: api.SignalLog, Groups: groups[:2]}, Since: 1}
	d.Groups = groups
	before := twin(groups[:cap(groups)])
	for _, r := range []api.BatchRules{rules(4, 4, 0), rules(20, 20, 0), rules(4, 1024, 0)} {
		add(b, r, d, 2)
		add(b, r, logs("a:7", "x:8"), 2)
		tick(b, r, 0)
		tick(b, r, 9)
		flush(b, r)
	}
	if !same(groups[:cap(groups)], before) || groups[0].Items[:3][2].Name != "" {
		t.Error("what was handed in, or the room behind it, is changed")
	}
}

// TestP1AndP2Anything has batches, rules and data that may be wrong.
func TestP1AndP2Anything(t *testing.T) {
	r := rand.New(rand.NewPCG(16, 2))
	some := func(s api.Signal) api.Data {
		var l []string
		for range r.IntN(4) {
			l = append(l, pick(r, "a:", "a:", "b:", "c:", "\xff:")+numbered(0, r.IntN(4)))
		}
		return data(s, l...)
	}
	had := map[api.Errno]int{}
	for range 20000 {
		s := api.Signal(r.IntN(6))
		b := api.Batch{Held: some(s), Since: r.Uint64N(10)}
		by := rules(r.IntN(8), r.IntN(12), r.Uint64N(10))
		d := some(pick(r, s, s, s, api.SignalLog))
		check(t, "Flush, and Check", answer{Why: flush(b, by).Why}, refused(batch.Check(b, by)))
		check(t, "Tick, and Check", answer{Why: tick(b, by, r.Uint64N(20)).Why}, refused(batch.Check(b, by)))
		want := batch.Check(b, by)
		if want == api.OK {
			want = pdata.Check(d)
		}
		if want == api.OK && len(b.Held.Groups) > 0 && b.Held.Signal != d.Signal {
			want = api.ErrType
		}
		x := add(b, by, d, r.Uint64N(20))
		had[x.Why]++
		if x.Why != want || x.Why != api.OK && !same(x, refused(want)) {
			t.Errorf("Add: %v\nwant error %d", x, want)
		}
		checkWhy(t, "what is answered", x.Batch, rules(max(1, by.Size), api.MaxItems, 0), api.OK)
	}
	for _, why := range []api.Errno{api.OK, api.ErrRange, api.ErrState, api.ErrType, api.ErrUtf} {
		if had[why] < 100 {
			t.Errorf("errors %v", had)
		}
	}
}

func TestP1Deep(t *testing.T) {
	deep := api.Value{}
	for range 1<<16 - 20 {
		deep = api.Value{Kind: api.KindList, List: []api.Value{deep}}
	}
	d := logs("a:1")
	d.Groups[0].Items[0].Body = deep
	r := rules(4, 4, 0)
	check(t, "Add of what is nested deep", add(api.Batch{}, r, d, 1), refused(api.ErrDepth))
	check(t, "Flush of what is nested deep", flush(api.Batch{Held: d}, r), refused(api.ErrState))
	n := mapNode()
	for range 1<<16 - 20 {
		n = mapNode(key("kind", n))
	}
	checkRead(t, "what is nested deep", n, api.BatchRules{}, api.ErrConf)
}

// TestP1Great has as many items as may be, with many attributes, one by one.
func TestP1Great(t *testing.T) {
	d := logs("a:"+numbered(0, 512), "b:"+numbered(512, 1024))
	var l []api.Pair
	for i := range 60 {
		l = append(l, api.Pair{Key: strconv.Itoa(i)})
	}
	for i := range d.Groups {
		for k := range d.Groups[i].Items {
			d.Groups[i].Items[k].Attrs = l
		}
	}
	x := add(api.Batch{}, rules(1, 1, 0), d, 1)
	if x.Why != api.OK || len(x.Gone) != api.MaxItems || !same(x.Gone[700].Groups[0].Items[0], d.Groups[1].Items[188]) {
		t.Errorf("Add: error %d, %d gone", x.Why, len(x.Gone))
	}
}

func TestP3AndP4AlwaysTheSame(t *testing.T) {
	before := runtime.NumGoroutine()
	h := someHanded()
	want := answers(h)
	for range 50 {
		if !same(answers(h), want) || !same(answers(twin(h)), want) {
			t.Fatal("the same is answered otherwise")
		}
	}
	for range 1000 { // one that is joined may still be on its way out
		if runtime.NumGoroutine() <= before {
			return
		}
		runtime.Gosched()
	}
	t.Errorf("%d goroutines are left", runtime.NumGoroutine()-before)
}
