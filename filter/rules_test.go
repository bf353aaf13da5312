package filter_test

import (
	"math/rand/v2"
	"runtime"
	"strings"
	"testing"

	"penstock/api"
	"penstock/filter"
	"penstock/pdata"
)

// handed is what is handed in to all calls.
type handed struct {
	Text     string
	Node     api.Node
	Steps    []api.PredStep
	Item     api.Item
	Resource []api.Pair
	Data     api.Data
}

// all is what all calls answer.
type all struct {
	Parse, Read []api.PredStep
	Print       string
	Holds       bool
	Left        []api.Data
	Count       []int
}

// someHanded has values of several lists in all places, also ones that are put more than once.
func someHanded() handed {
	v := list(table(pair("k", list(whole(1)))), text("t"))
	l := pairs(pair("a", v), pair("b", v), pair("c", table(pair("x", v))))
	g := api.Group{Resource: l, Scope: "s", Attrs: l, Items: []api.Item{{Name: "a", Attrs: l, Body: v}, {Name: "b", Attrs: l, Body: v}}}
	other := g
	other.Scope = "o"
	s := `attr["a"] == resource["b"] and name == "a" or body != attr["a"]`
	return twin(handed{s, dropNode(s), read(s), g.Items[0], l, api.Data{Signal: api.SignalLog, Groups: []api.Group{g, other, g}}})
}

func answers(h handed) all {
	var out all
	out.Parse, _ = filter.Parse(h.Text)
	out.Read, _ = filter.Read(h.Node)
	out.Print, _ = filter.Print(h.Steps)
	out.Holds, _ = filter.Holds(h.Steps, h.Item, h.Resource)
	for _, l := range [][]api.PredStep{h.Steps, steps(no), steps(yes), read(`name == "b"`)} {
		d, n, _ := filter.Drop(h.Data, l)
		out.Left, out.Count = append(out.Left, d), append(out.Count, n)
	}
	return out
}

func TestP153NewMemory(t *testing.T) {
	h, before := someHanded(), someHanded()
	first, second := answers(h), answers(h)
	if !same(h, before) {
		t.Error("what was handed in is changed")
	}
	checkApart(t, "all calls", first, second, h)
	want := twin(second)
	spoil(first)
	if !same(h, before) {
		t.Error("an answer shares memory with what was handed in")
	}
	spoil(h)
	if !same(second, want) || len(second.Read) != 11 || !second.Holds || second.Count[0] != 3 || len(second.Left[1].Groups) != 3 {
		t.Errorf("what was handed in, or an earlier answer, is kept: %s", brief(second))
	}
}

// TestP153Room has room behind what is handed in, which stays as it is.
func TestP153Room(t *testing.T) {
	h := someHanded()
	l := append(make([]api.PredStep, 0, 300), h.Steps...)
	room := l[:cap(l)]
	for i := len(l); i < len(room); i++ {
		room[i] = aText("room")
	}
	before := twin(room)
	filter.Check(l)
	filter.Print(l)
	filter.Holds(l, h.Item, h.Resource)
	filter.Drop(h.Data, l)
	if !same(room, before) {
		t.Error("what was handed in, or the room behind it, is changed")
	}
}

// TestP1AndP2Anything has steps, data and texts that may be wrong.
func TestP1AndP2Anything(t *testing.T) {
	r := rand.New(rand.NewPCG(15, 11))
	had := map[api.Errno]int{}
	for range 10000 {
		x := someTruth(r, r.IntN(4))
		l := x.steps()
		for range r.IntN(2) {
			l = spoiled(r, l)
		}
		d := someData(r)
		if r.IntN(4) == 0 && len(d.Groups) > 0 {
			d.Groups[0].Resource = somePairs(r)
		}
		if r.IntN(8) == 0 {
			d.Signal = api.Signal(r.IntN(6))
		}
		want := filter.Check(l)
		s, why := filter.Print(l)
		if why != want || (s == "") != (why != api.OK) {
			t.Errorf("Print: error %d, %q", why, s)
		}
		is, why := filter.Holds(l, someItem(r), somePairs(r))
		if why != want || is && why != api.OK {
			t.Errorf("Holds: error %d, %v", why, is)
		}
		if want == api.OK {
			want = pdata.Check(d)
		}
		had[want]++
		got, n, why := filter.Drop(d, l)
		if why != want || why != api.OK && (n != 0 || !same(got, api.Data{})) {
			t.Errorf("Drop: error %d, want %d, %d left out, %s", why, want, n, brief(got))
		}
	}
	if had[api.OK] < 3000 || had[api.ErrConf] < 1000 || had[api.ErrState] < 20 || had[api.ErrType] < 50 {
		t.Errorf("errors %v", had)
	}
	for range 20000 {
		b := make([]byte, r.IntN(12))
		for i := range b {
			b[i] = pick(r, byte(r.IntN(256)), "\"\\()[] <=>!-0.etru"[r.IntN(18)])
		}
		l, why := filter.Parse(string(b))
		if (len(l) == 0) != (why != api.OK) {
			t.Errorf("Parse of %q: error %d, %s", b, why, brief(l))
		}
	}
}

func TestP1Deep(t *testing.T) {
	deep := whole(1)
	for range 1<<16 - 20 {
		deep = list(deep)
	}
	x := api.Item{Attrs: pairs(pair("a", deep)), Body: deep}
	checkHolds(t, `attr["a"] == body`, x, x.Attrs, true)
	checkHolds(t, `attr["a"] != resource["a"] or attr["a"] < body`, x, x.Attrs, false)
	checkDrop(t, "what is nested deep", api.Data{Signal: api.SignalLog, Groups: []api.Group{{Items: []api.Item{x}}}}, steps(yes), api.Data{}, 0, api.ErrDepth)
	n := mapNode()
	for range 1<<16 - 20 {
		n = mapNode(key("kind", n))
	}
	checkRead(t, "what is nested deep", n, nil, api.ErrConf)
	for _, s := range []string{"(", ")", "not ", `"`, "[", "has(", "attr[", "true and ", "<", "-", "0"} {
		checkParse(t, strings.Repeat(s, api.MaxText/len(s)), nil, api.ErrConf)
	}
}

func TestP3AndP4AlwaysTheSame(t *testing.T) {
	before := runtime.NumGoroutine()
	h := someHanded()
	want := answers(h)
	for range 50 {
		if !same(answers(h), want) || !same(answers(twin(h)), want) {
			t.Fatal("the same is answered otherwise")
		}
	}
	for range 1000 { // one that is joined may still be on its way out
		if runtime.NumGoroutine() <= before {
			return
		}
		runtime.Gosched()
	}
	t.Errorf("%d goroutines are left", runtime.NumGoroutine()-before)
}
