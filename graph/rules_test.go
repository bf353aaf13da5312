package graph_test

import (
	"math/rand/v2"
	"reflect"
	"runtime"
	"slices"
	"strings"
	"testing"

	"penstock/api"
	"penstock/graph"
)

// spoil writes over all elements of all lists of x, and what lies behind them.
func spoil(x any) {
	eachCell(reflect.ValueOf(x), func(v reflect.Value) { v.SetZero() })
}

// all is what all calls answer that answer lists.
type all struct {
	Config api.Config
	Lists  [][]int
	Ways   [][]uint64
}

func answers(n api.Node, c api.Config) all {
	var out all
	out.Config, _ = graph.Read(n)
	order, _ := graph.Order(c)
	out.Lists = append(out.Lists, order)
	for i := range c.Pipes {
		next, own, _ := graph.After(c, i)
		ways, _ := graph.Ways(c, i)
		out.Lists, out.Ways = append(out.Lists, next, own), append(out.Ways, ways)
	}
	for _, x := range c.Receivers {
		from, _ := graph.From(c, x.Name, api.SignalLog)
		out.Lists = append(out.Lists, from)
	}
	return out
}

func TestP133NewMemory(t *testing.T) {
	n := twin(parsed(t, whole))
	c := twin(config("c d", "logs: r > p q > c d e", "logs/b: c d r > e f", "logs/a: r s > g", "logs/c: d > e"))
	c.Receivers[0].Node, c.Procs[1].Node = twin(n), twin(n)
	before, beforeC := twin(n), twin(c)
	first, second := answers(n, c), answers(n, c)
	if !same(n, before) || !same(c, beforeC) {
		t.Error("what was handed in is changed")
	}
	checkApart(t, "all calls", first, second, n, c)
	want := twin(second)
	spoil(first)
	if !same(n, before) || !same(c, beforeC) {
		t.Error("an answer shares memory with what was handed in")
	}
	spoil(n)
	spoil(c)
	if !same(second, want) || len(second.Config.Pipes) != 3 || len(second.Lists) != 11 {
		t.Errorf("what was handed in, or an earlier answer, is kept: %s", brief(second))
	}
}

// TestP133Room has room behind what is handed in, which stays as it is.
func TestP133Room(t *testing.T) {
	c := twin(config("c", "logs: r > c", "logs/b: c > e"))
	room := func() []api.Pipe { return c.Pipes[:cap(c.Pipes)][len(c.Pipes):] }
	room()[0] = pipe("traces: x > y")
	c.Receivers[:cap(c.Receivers)][len(c.Receivers)] = api.Comp{Name: "x"}
	for i := range c.Pipes {
		p := &c.Pipes[i]
		p.Receivers[:cap(p.Receivers)][len(p.Receivers)] = "room"
		p.Exporters[:cap(p.Exporters)][len(p.Exporters)] = "room"
	}
	answers(mapOf(), c)
	checkConfig(t, "what has room", c, api.OK)
	if !same(room()[0], pipe("traces: x > y")) || c.Receivers[:cap(c.Receivers)][len(c.Receivers)].Name != "x" {
		t.Error("the room behind what was handed in is written to")
	}
	for _, p := range c.Pipes {
		if p.Receivers[:cap(p.Receivers)][len(p.Receivers)] != "room" || p.Exporters[:cap(p.Exporters)][len(p.Exporters)] != "room" {
			t.Error("the room behind a pipeline's lists is written to")
		}
	}
}

// someNode is a config's, mostly, with anything somewhere in it.
func someNode(r *rand.Rand, around int) api.Node {
	n := api.Node{Kind: pick(r, api.NodeMap, api.NodeMap, api.NodeMap, api.NodeText, api.NodeList)}
	switch n.Kind {
	case api.NodeText:
		n.Text = pick(r, "", "filter", "batch", "attributes", "r")
	case api.NodeList:
		n.List = someNames(r, []string{"r", "p", "c", "e", "r"}, 3)
	case api.NodeMap:
		l := [][]string{{"receivers", "processors", "connectors", "exporters", "pipelines", "other"}, {"r", "p", "c", "e", "logs", "traces/b", "x"}, {"kind", "receivers", "processors", "exporters", "k"}, {"k"}}
		for _, k := range someNames(r, l[min(around, 3)], 4) {
			n.Keys = append(n.Keys, key(k, someNode(r, around+1)))
		}
	}
	if r.IntN(100) == 0 {
		n.Kind = api.NodeKind(r.IntN(256))
	}
	return n
}

func TestP1AndP2Anything(t *testing.T) {
	r := rand.New(rand.NewPCG(13, 7))
	had := map[api.Errno]int{}
	for range 30000 {
		c, why := graph.Read(someNode(r, 0))
		had[why]++
		if why != api.OK && !same(c, api.Config{}) {
			t.Fatalf("Read: beside error %d there is %s", why, brief(c))
		}
		if why == api.OK {
			checkConfig(t, "what was read", c, api.OK)
		}
	}
	if had[api.OK] < 100 || had[api.ErrConf] < 100 {
		t.Errorf("Read: errors %v", had)
	}
}

// TestP1Great has lists, names and nodes that are great.
func TestP1Great(t *testing.T) {
	deep := mapOf()
	for range 1<<16 - 20 {
		deep = under("k", deep)
	}
	checkRead(t, "what is nested deep", deep, api.Config{}, api.ErrConf)
	checkRead(t, "what is nested deep, in it", under("receivers", under("r", deep)), api.Config{}, api.ErrConf)
	c := config("", "logs: r > e")
	c.Receivers[1].Node = deep
	checkConfig(t, "a node that is nested deep", c, api.ErrConf)
	for want, name := range map[api.Errno]string{api.ErrConf: "r", api.ErrUnknown: "x"} {
		c := config("", "logs: r > e")
		c.Pipes[0].Receivers = slices.Repeat([]string{name}, 1<<20)
		checkConfig(t, "very many receivers", c, want)
	}
	c = config("", "logs: r > e")
	c.Pipes = slices.Repeat(c.Pipes, 1<<16)
	checkConfig(t, "very many pipelines", c, api.ErrMany)
	long := strings.Repeat("x", 1<<22)
	c = api.Config{Receivers: comps(long), Exporters: comps(long + "e"), Pipes: []api.Pipe{{Signal: api.SignalLog, Name: long, Receivers: []string{long}, Exporters: []string{long + "e"}}}}
	checkConfig(t, "long names", c, api.OK)
}

func TestP3AndP4AlwaysTheSame(t *testing.T) {
	before := runtime.NumGoroutine()
	c := config("c d x", "logs/0: d > g", "logs/1: d c > e f", "logs/2: r > g d e c", "logs/3: c r > x f", "logs/4: x r > f")
	n := parsed(t, whole)
	want := answers(n, c)
	for range 50 {
		if !same(answers(n, c), want) || !same(answers(twin(n), twin(c)), want) {
			t.Fatal("the same is answered otherwise")
		}
	}
	for range 1000 { // one that is joined may still be on its way out
		if runtime.NumGoroutine() <= before {
			return
		}
		runtime.Gosched()
	}
	t.Errorf("%d goroutines are left", runtime.NumGoroutine()-before)
}
