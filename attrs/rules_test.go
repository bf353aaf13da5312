package attrs_test

import (
	"math/rand/v2"
	"runtime"
	"strings"
	"testing"

	"penstock/api"
	"penstock/attrs"
	"penstock/pdata"
	"penstock/value"
)

// all is what all calls answer that answer lists.
type all struct {
	Read      api.Attrs
	Pairs     [][]api.Pair
	Items     api.Data
	Resources api.Data
}

// handed is what is handed in to them.
type handed struct {
	Node    api.Node
	Pairs   []api.Pair
	Actions []api.Action
	Data    api.Data
}

// someHanded has values of several lists in all places, also ones that are put more than once.
func someHanded() handed {
	v := list(table(pair("k", list(whole(1)))), text("t"))
	l := pairs(pair("a", v), pair("b", v), pair("c", table(pair("x", v))), pair("d", text("d")))
	actions := []api.Action{update("a", v), insert("n", v), upsert("m", v), upsert("b", v), remove("d"), hash("c"), insert("o", v)}
	return twin(handed{actionsNode("insert a text:x", "hash b"), l, actions, data(api.SignalLog, [][]api.Pair{l, l}, nil, [][]api.Pair{l, nil})})
}

func answers(h handed) all {
	var out all
	out.Read, _ = attrs.Read(h.Node)
	for _, a := range []api.Attrs{items(), items(h.Actions...), items(update("a", h.Actions[0].Value)), items(remove("a"))} {
		l, _ := attrs.Pairs(h.Pairs, a)
		out.Pairs = append(out.Pairs, l)
	}
	out.Items, _ = attrs.Apply(h.Data, items(h.Actions...))
	out.Resources, _ = attrs.Apply(h.Data, resources(h.Actions...))
	return out
}

func TestP143NewMemory(t *testing.T) {
	h, before := someHanded(), someHanded()
	first, second := answers(h), answers(h)
	if !same(h, before) {
		t.Error("what was handed in is changed")
	}
	checkApart(t, "all calls", first, second, h)
	want := twin(second)
	spoil(first)
	if !same(h, before) {
		t.Error("an answer shares memory with what was handed in")
	}
	spoil(h)
	if !same(second, want) || len(second.Read.Actions) != 2 || len(second.Pairs[1]) != 6 || len(second.Items.Groups) != 3 {
		t.Errorf("what was handed in, or an earlier answer, is kept: %s", brief(second))
	}
}

// TestP143Room has room behind what is handed in, which stays as it is, and actions that have done with it.
func TestP143Room(t *testing.T) {
	h := someHanded()
	l := append(make([]api.Pair, 0, 20), h.Pairs...)
	room := l[:cap(l)]
	for i := len(l); i < len(room); i++ {
		room[i] = pair("room", text("room"))
	}
	before := twin(room)
	d := data(api.SignalLog, [][]api.Pair{l})
	for _, a := range []api.Attrs{items(h.Actions...), items(remove("a"), remove("b")), items(insert("x", text("y"))), items()} {
		attrs.Pairs(l, a)
		attrs.Apply(d, a)
		d.Groups[0].Resource = l
		a.Resource = true
		attrs.Apply(d, a)
	}
	if !same(room, before) {
		t.Error("what was handed in, or the room behind it, is changed")
	}
}

// anything is an action that may be wrong.
func anything(r *rand.Rand) api.Action {
	a := someAction(r)
	switch r.IntN(12) {
	case 0:
		a.Kind = api.ActionKind(r.IntN(256))
	case 1:
		a.Value.Kind = api.Kind(r.IntN(12))
	case 2:
		a.Key = pick(r, "\xff", strings.Repeat("x", 4095+r.IntN(3)))
	case 3:
		a.Value.S = pick(r, "\xff", "x")
	}
	return a
}

func TestP1AndP2Anything(t *testing.T) {
	r := rand.New(rand.NewPCG(14, 1))
	had := map[api.Errno]int{}
	for range 10000 {
		var a api.Attrs
		for range r.IntN(4) {
			a.Actions = append(a.Actions, anything(r))
		}
		a.Resource = r.IntN(2) == 0
		l := somePairs(r)
		if r.IntN(4) == 0 {
			l = append(l, pair(someKey(r), api.Value{Kind: api.Kind(r.IntN(12)), N: 1}))
		}
		d := someData(r)
		if r.IntN(4) == 0 && len(d.Groups) > 0 {
			d.Groups[0].Resource = l
		}
		want := attrs.Check(a)
		wantData := want
		var wantPairs []api.Pair
		left := api.Data{}
		if want == api.OK {
			want, wantData = value.CheckPairs(l), pdata.Check(d)
		}
		if want == api.OK {
			wantPairs = model(l, a.Actions)
		}
		if wantData == api.OK {
			left = behind(d, a)
		}
		had[want]++
		checkPairs(t, "anything", l, a, wantPairs, want)
		checkApply(t, "anything", d, a, left, wantData)
		for _, x := range a.Actions {
			if s, why := attrs.Text(x); why != api.OK && s != "" {
				t.Errorf("Text: error %d, %q", why, s)
			}
		}
	}
	if had[api.OK] < 500 || had[api.ErrConf] < 500 || had[api.ErrState] < 20 || had[api.ErrType] < 50 {
		t.Errorf("errors %v", had)
	}
}

func TestP1Deep(t *testing.T) {
	deep := nested(1<<16 - 20)
	checkPairs(t, "what is nested deep", pairs(pair("a", deep)), items(hash("a")), nil, api.ErrDepth)
	checkPairs(t, "an action's value nested deep", nil, items(insert("a", deep)), nil, api.ErrConf)
	checkText(t, insert("a", deep), "", api.ErrConf)
	n := mapNode()
	for range 1<<16 - 20 {
		n = mapNode(key("kind", n))
	}
	checkRead(t, "what is nested deep", n, api.Attrs{}, api.ErrConf)
	if why := attrs.Check(items(make([]api.Action, 1<<20)...)); why != api.ErrConf {
		t.Errorf("Check of very many: error %d", why)
	}
}

func TestP3AndP4AlwaysTheSame(t *testing.T) {
	before := runtime.NumGoroutine()
	h := someHanded()
	want := answers(h)
	for range 50 {
		if !same(answers(h), want) || !same(answers(twin(h)), want) {
			t.Fatal("the same is answered otherwise")
		}
	}
	for range 1000 { // one that is joined may still be on its way out
		if runtime.NumGoroutine() <= before {
			return
		}
		runtime.Gosched()
	}
	t.Errorf("%d goroutines are left", runtime.NumGoroutine()-before)
}
